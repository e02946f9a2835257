package fault

import (
	"errors"
	"math"
	"strconv"
	"strings"
	"sync"
	"testing"

	"castings/api"
)

// codeNames are the names of the codes by the list of the chapter.
var codeNames = map[api.Code]string{
	api.LexError: "lex", api.ParseError: "parse", api.TooDeep: "deep",
	api.TypeError: "type", api.NotNomono: "nomono", api.BudgetExceeded: "budget",
}

// oddCodes are codes without a name.
var oddCodes = []api.Code{-1, 0, 7, 8, 255, 256, 257, -6, 1 << 32, 1<<32 + 1, math.MaxInt, math.MinInt}

// plain is an error without a method Unwrap.
type plain struct{}

func (plain) Error() string { return "plain" }

// holder is a foreign error whose Unwrap may return nil.
type holder struct{ err error }

func (holder) Error() string   { return "held" }
func (h holder) Unwrap() error { return h.err }

// many is an error that can't be compared.
type many []error

func (many) Error() string { return "many" }

// manyIn is an error that can't be compared, and wraps another.
type manyIn []error

func (manyIn) Error() string   { return "many in" }
func (m manyIn) Unwrap() error { return m[0] }

// embeds has the methods of a fault, but is none.
type embeds struct{ api.Fault }

// likeCode and likeFault are like api.Code and api.Fault, but of other types.
type likeCode api.Code

func (likeCode) Error() string { return "like a code" }

type likeFault api.Fault

func (likeFault) Error() string { return "like a fault" }

// panics is an error whose methods panic for a nil pointer.
type panics struct{ err error }

func (p *panics) Error() string { return p.err.Error() }
func (p *panics) Unwrap() error { return p.err }

// deep wraps err in n errors, of this package and others by turns.
func deep(err error, n int) error {
	for i := range n {
		switch i % 3 {
		case 0:
			err = In(strconv.Itoa(i), err)
		case 1:
			err = holder{err}
		default:
			err = manyIn{err}
		}
	}
	return err
}

// find is what errors and their texts are expected to be: the code and the
// offset of err, each with whether there is one.
type find struct {
	err     error
	code    api.Code
	hasCode bool
	at      int
	hasAt   bool
	text    string
}

func finds() map[string]find {
	var noPanics *panics
	var noFault *api.Fault
	var noCode *api.Code
	seven := api.Fault{Code: api.TypeError, At: 7}
	budget := api.BudgetExceeded
	return map[string]find{
		"nil":                     {nil, 0, false, 0, false, "ok"},
		"a code":                  {api.LexError, 1, true, 0, false, "lex"},
		"the code 0":              {api.Code(0), 0, true, 0, false, ""},
		"the code 7":              {api.Code(7), 7, true, 0, false, ""},
		"the code -1":             {api.Code(-1), -1, true, 0, false, ""},
		"a fault":                 {seven, 4, true, 7, true, "type 7"},
		"a fault at 0":            {api.Fault{Code: api.LexError}, 1, true, 0, true, "lex 0"},
		"a fault at -3":           {api.Fault{Code: api.TooDeep, At: -3}, 3, true, -3, true, "deep -3"},
		"a fault with 0":          {api.Fault{At: 5}, 0, true, 5, true, " 5"},
		"the zero fault":          {api.Fault{}, 0, true, 0, true, " 0"},
		"a fault with 9":          {api.Fault{Code: 9, At: 12}, 9, true, 12, true, " 12"},
		"a fault in parts":        {In("a", In("b", seven)), 4, true, 7, true, "type 7"},
		"a code in parts":         {In("a", In("b", api.NotNomono)), 5, true, 0, false, "nomono"},
		"another error":           {plain{}, 0, false, 0, false, "error"},
		"another in a part":       {In("a", errors.New("type 7")), 0, false, 0, false, "error"},
		"one named ok":            {errors.New("ok"), 0, false, 0, false, "error"},
		"an end by nil":           {holder{nil}, 0, false, 0, false, "error"},
		"an end by nil in a part": {In("a", holder{nil}), 0, false, 0, false, "error"},
		"a fault held":            {holder{In("a", holder{seven})}, 4, true, 7, true, "type 7"},
		"a code held":             {holder{In("a", holder{api.ParseError})}, 2, true, 0, false, "parse"},
		"one not compared":        {many{seven}, 0, false, 0, false, "error"},
		"not compared in parts":   {In("a", many{seven}), 0, false, 0, false, "error"},
		"wrapped, not compared":   {manyIn{manyIn{seven}}, 4, true, 7, true, "type 7"},
		"no fault, but its code":  {embeds{seven}, 4, true, 0, false, "type"},
		"a pointer to a fault":    {&seven, 4, true, 0, false, "type"},
		"a pointer to a code":     {&budget, 0, false, 0, false, "error"},
		"like a code":             {likeCode(4), 0, false, 0, false, "error"},
		"like a fault":            {likeFault(seven), 0, false, 0, false, "error"},
		"1000 in a chain":         {deep(seven, 998), 4, true, 7, true, "type 7"},
		"1000 without a code":     {deep(plain{}, 999), 0, false, 0, false, "error"},
		"a panic":                 {noPanics, 0, false, 0, false, "error"},
		"a panic in parts":        {In("a", holder{noPanics}), 0, false, 0, false, "error"},
		"no panic":                {&panics{seven}, 4, true, 7, true, "type 7"},
		"a nil fault":             {noFault, 0, false, 0, false, "error"},
		"a nil code":              {noCode, 0, false, 0, false, "error"},
	}
}

// P2.1

func TestNew(t *testing.T) {
	codes := append([]api.Code{1, 2, 3, 4, 5, 6}, oddCodes...)
	for _, c := range codes {
		for _, at := range []int{0, 1, 7, -1, 1<<31 - 1, math.MaxInt, math.MinInt} {
			if f, ok := New(c, at).(api.Fault); !ok || f.Code != c || f.At != at {
				t.Errorf("New(%d, %d) = %v, %t", c, at, f, ok)
			}
		}
	}
}

func TestInHasThePartInItsText(t *testing.T) {
	for _, want := range []struct {
		part string
		err  error
		text string
	}{
		{"check", New(api.TypeError, 8), "check: error 4"},
		{"a", In("b", New(api.LexError, 0)), "a: b: error 1"},
		{"", api.TooDeep, ": error 3"},
		{"a: b", errors.New(""), "a: b: "},
		{"%s\n", errors.New("%d"), "%s\n: %d"},
		{"\xff", errors.New("\x00"), "\xff: \x00"},
		{"a", many{}, "a: many"},
		{strings.Repeat("x", 1<<16), plain{}, strings.Repeat("x", 1<<16) + ": plain"},
	} {
		if got := In(want.part, want.err).Error(); got != want.text {
			t.Errorf("In(%.20q, %v) has the text %.60q, want %.60q", want.part, want.err, got, want.text)
		}
	}
}

func TestInUnwraps(t *testing.T) {
	for what, f := range finds() {
		switch f.err.(type) {
		case nil, many, manyIn: // not there, or not to be compared
			continue
		}
		u, ok := In("a", f.err).(interface{ Unwrap() error })
		if !ok || u.Unwrap() != f.err || errors.Unwrap(In("", f.err)) != f.err {
			t.Errorf("%s: In does not unwrap to it", what)
		}
	}
	if u, ok := errors.Unwrap(In("a", many{plain{}})).(many); !ok || len(u) != 1 {
		t.Error("an error that can't be compared is not unwrapped")
	}
}

func TestInOfNil(t *testing.T) {
	for _, part := range []string{"", "a", "check"} {
		if err := In(part, nil); err != nil {
			t.Errorf("In(%q, nil) = %v", part, err)
		}
	}
}

func TestInOfANilPointer(t *testing.T) {
	var p *panics
	if err := In("a", p); err == nil || errors.Unwrap(err) != error(p) {
		t.Error("a nil pointer is taken for nil")
	}
}

func TestInKeepsWhatItWraps(t *testing.T) {
	inner := In("b", New(api.TypeError, 7))
	one, two := In("a", inner), In("c", inner)
	if inner.Error() != "b: error 4" || one.Error() != "a: b: error 4" || two.Error() != "c: b: error 4" || Text(inner) != "type 7" {
		t.Error(inner, one, two)
	}
}

func TestInOfALongChain(t *testing.T) {
	err := New(api.BudgetExceeded, 3)
	for range 998 {
		err = In("p", err)
	}
	if got, want := err.Error(), strings.Repeat("p: ", 998)+"error 6"; got != want {
		t.Errorf("the text is %.60q", got)
	}
}

// P2.2

func TestCode(t *testing.T) {
	for what, want := range finds() {
		if got, ok := Code(want.err); got != want.code || ok != want.hasCode {
			t.Errorf("%s: Code = %d, %t, want %d, %t", what, got, ok, want.code, want.hasCode)
		}
	}
}

func TestAt(t *testing.T) {
	for what, want := range finds() {
		if got, ok := At(want.err); got != want.at || ok != want.hasAt {
			t.Errorf("%s: At = %d, %t, want %d, %t", what, got, ok, want.at, want.hasAt)
		}
	}
}

func TestCodeAndAtOfNew(t *testing.T) {
	for _, c := range append([]api.Code{1, 2, 3, 4, 5, 6}, oddCodes...) {
		for _, at := range []int{0, 1, -1, 1 << 31, 1<<62 - 1, -(1<<62 - 1)} {
			for _, err := range []error{New(c, at), In("a", New(c, at)), deep(New(c, at), 7)} {
				gotCode, hasCode := Code(err)
				gotAt, hasAt := At(err)
				if gotCode != c || !hasCode || gotAt != at || !hasAt {
					t.Errorf("%v: %d, %t, %d, %t, want %d, %d", err, gotCode, hasCode, gotAt, hasAt, c, at)
				}
			}
		}
	}
}

// P2.3

func TestShift(t *testing.T) {
	for what, f := range finds() {
		for _, n := range []int{0, 1, 12, -1, -100, 1 << 31, 1<<61 - 1, -(1<<61 - 1)} {
			var want error
			if f.hasCode {
				want = api.Fault{Code: f.code, At: f.at + n}
			}
			got := Shift(f.err, n)
			if want == nil {
				if got != nil {
					t.Errorf("%s: Shift by %d = %v, want nil", what, n, got)
				}
				continue
			}
			if got == nil || got != want {
				t.Errorf("%s: Shift by %d = %v, want %v", what, n, got, want)
			}
		}
	}
}

func TestShiftTwice(t *testing.T) {
	err := In("a", New(api.ParseError, 5))
	if got := Shift(In("b", Shift(err, 10)), -4); got != error(api.Fault{Code: api.ParseError, At: 11}) {
		t.Error(got)
	}
	if at, ok := At(err); at != 5 || !ok {
		t.Errorf("Shift changed its argument: %d, %t", at, ok)
	}
}

func TestShiftByMuch(t *testing.T) {
	for _, sum := range []int{1<<62 - 1, -(1<<62 - 1)} {
		for _, at := range []int{0, 1, -1, sum} {
			if got := Shift(New(api.LexError, at), sum-at); got != error(api.Fault{Code: api.LexError, At: sum}) {
				t.Errorf("Shift of %d by %d = %v", at, sum-at, got)
			}
		}
	}
}

// P2.4

func TestName(t *testing.T) {
	if len(codeNames) != 6 {
		t.Fatal("two codes are the same")
	}
	for c, want := range codeNames {
		if got := Name(c); got != want {
			t.Errorf("Name(%d) = %q, want %q", c, got, want)
		}
	}
	for c, want := range []string{"", "lex", "parse", "deep", "type", "nomono", "budget", ""} {
		if got := Name(api.Code(c)); got != want {
			t.Errorf("Name(%d) = %q, want %q", c, got, want)
		}
	}
}

func TestNameOfOtherCodes(t *testing.T) {
	for _, c := range oddCodes {
		if got := Name(c); got != "" {
			t.Errorf("Name(%d) = %q", c, got)
		}
	}
}

func TestText(t *testing.T) {
	for what, want := range finds() {
		if got := Text(want.err); got != want.text {
			t.Errorf("%s: Text = %q, want %q", what, got, want.text)
		}
	}
}

func TestTextOfEveryCode(t *testing.T) {
	for c, name := range codeNames {
		for _, err := range []error{c, In("a", c), deep(c, 5)} {
			if got := Text(err); got != name {
				t.Errorf("Text(%v) = %q, want %q", err, got, name)
			}
		}
		for at, want := range map[int]string{0: " 0", 8: " 8", 10: " 10", 1<<31 - 1: " 2147483647", -12: " -12", 1<<62 - 1: " 4611686018427387903"} {
			for _, err := range []error{New(c, at), In("a", New(c, at)), deep(New(c, at), 5)} {
				if got := Text(err); got != name+want {
					t.Errorf("Text(%v) = %q, want %q", err, got, name+want)
				}
			}
		}
	}
	for _, c := range oddCodes {
		if got := Text(c); got != "" {
			t.Errorf("Text of the code %d = %q", c, got)
		}
		if got := Text(In("a", New(c, 31))); got != " 31" {
			t.Errorf("Text of a fault with the code %d = %q", c, got)
		}
	}
}

func TestTextOfTheExample(t *testing.T) {
	err := In("check", New(api.TypeError, 8))
	if err.Error() != "check: error 4" || Text(err) != "type 8" {
		t.Error(err, Text(err))
	}
}

// P2.5

func TestIsFindsTheSameCodes(t *testing.T) {
	codes := append([]api.Code{1, 2, 3, 4, 5, 6}, oddCodes...)
	for what, f := range finds() {
		if f.err == nil || strings.Contains(what, "panic") || what == "a nil fault" {
			continue
		}
		for _, c := range codes {
			inside := errors.Is(f.err, c)
			if inside != (f.hasCode && f.code == c) {
				t.Errorf("%s: errors.Is finds the code %d: %t", what, c, inside)
			}
			for _, err := range []error{In("a", f.err), In("a", In("b", f.err)), In("a", holder{f.err})} {
				if errors.Is(err, c) != inside {
					t.Errorf("%s: wrapped, errors.Is finds the code %d: %t", what, c, !inside)
				}
			}
		}
	}
}

func TestIsFindsTheCodeOfAShifted(t *testing.T) {
	for c := range codeNames {
		for other := range codeNames {
			if got := errors.Is(In("a", Shift(In("b", c), 3)), other); got != (c == other) {
				t.Errorf("errors.Is finds %d in a shifted %d: %t", other, c, got)
			}
		}
	}
}

func TestIsComparesWhatIsWrapped(t *testing.T) {
	w := In("a", many{})
	if !errors.Is(w, w) || errors.Is(w, In("a", many{})) || !errors.Is(In("a", plain{}), plain{}) {
		t.Error("errors.Is is wrong for errors that can't be compared")
	}
}

// Rule 8: the functions may be called concurrently.

func TestConcurrentCalls(t *testing.T) {
	shared := In("a", New(api.TypeError, 7))
	var all sync.WaitGroup
	for range 8 {
		all.Go(func() {
			for i := range 1000 {
				if Text(Shift(In("b", shared), i)) != "type "+strconv.Itoa(7+i) || shared.Error() != "a: error 4" {
					t.Error("a concurrent call went wrong")
					return
				}
			}
		})
	}
	all.Wait()
}

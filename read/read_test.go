package read

import (
	"errors"
	"maps"
	"reflect"
	"slices"
	"strconv"
	"strings"
	"sync"
	"testing"

	"castings/api"
	"castings/expr"
	"castings/lex"
	"castings/types"
)

// of returns a type with an offset.
func of(at int, name string, args ...api.Type) api.Type {
	return api.Type{Name: name, Args: args, At: at}
}

func variable(at int, name string) api.Expr {
	return api.Expr{Kind: api.Var, Name: name, At: at}
}

func call(at int, name string, targs []api.Type, kids ...api.Expr) api.Expr {
	return api.Expr{Kind: api.Call, Name: name, Targs: targs, Kids: kids, At: at}
}

// lit returns a literal, whose offset is that of its Type.
func lit(t api.Type, kids ...api.Expr) api.Expr {
	return api.Expr{Kind: api.Lit, Type: t, Kids: kids, At: t.At}
}

func field(at int, name string, kid api.Expr) api.Expr {
	return api.Expr{Kind: api.Field, Name: name, Kids: []api.Expr{kid}, At: at}
}

func assert(at int, t api.Type, kid api.Expr) api.Expr {
	return api.Expr{Kind: api.Assert, Type: t, Kids: []api.Expr{kid}, At: at}
}

// shown returns all fields of e that a right expression has, with offsets.
func shown(e api.Expr) string {
	s := strconv.Itoa(e.Kind) + strconv.Quote(e.Name) + "@" + strconv.Itoa(e.At)
	if e.Kind == api.Lit || e.Kind == api.Assert || e.Type.Name != "" || len(e.Type.Args) > 0 {
		s += ":" + shownType(e.Type)
	}
	for _, t := range e.Targs {
		s += "[" + shownType(t) + "]"
	}
	for _, kid := range e.Kids {
		s += "(" + shown(kid) + ")"
	}
	return s
}

// shownType is shown for types.
func shownType(t api.Type) string {
	s := strconv.Quote(t.Name) + "@" + strconv.Itoa(t.At)
	for _, arg := range t.Args {
		s += "[" + shownType(arg) + "]"
	}
	return s
}

// zero tells whether a value is zero, but for empty lists.
func zero(e api.Expr) bool { return shown(e) == shown(api.Expr{}) }

func zeroType(t api.Type) bool { return shownType(t) == shownType(api.Type{}) }

// isFault tells whether err is the api.Fault itself, and not a wrapped one.
func isFault(err error, code api.Code, at int) bool {
	f, ok := err.(api.Fault)
	return ok && f == api.Fault{Code: code, At: at}
}

// tokens returns the tokens of a text that has some.
func tokens(t *testing.T, s string) []lex.Token {
	t.Helper()
	l, err := lex.Tokens(s)
	if err != nil {
		t.Fatalf("%.40q: %v", s, err)
	}
	return l
}

// cursor returns one in front of the tokens of a text.
func cursor(t *testing.T, s string) *Cursor {
	t.Helper()
	return New(tokens(t, s))
}

// failed returns a cursor that has an error at the offset 4, in front of ".".
func failed(t *testing.T) *Cursor {
	t.Helper()
	c := cursor(t, "a b . c")
	c.Name()
	c.Name()
	c.Name()
	return c
}

// checkEnd checks that a cursor has the error ParseError at an offset, or none
// and nothing left, if it is negative.
func checkEnd(t *testing.T, c *Cursor, at int) {
	t.Helper()
	err := c.End()
	if at < 0 && err != nil || at >= 0 && !isFault(err, api.ParseError, at) {
		t.Errorf("End() = %#v, want an error at %d", err, at)
	}
	if c.Failed() != (at >= 0) {
		t.Errorf("Failed() = %t with an error at %d", !(at >= 0), at)
	}
}

// reservedWords are those of layer 1.
var reservedWords = []string{"package", "main", "type", "struct", "interface", "func", "return"}

// signs are those of layer 3.
var signs = strings.Split("()[]{}.,;=_", "")

// P7.1

func TestNext(t *testing.T) {
	texts := slices.Concat(reservedWords, signs, []string{"a", "A", "ab", "a_1", "", " ", "$0", "a ", "\n", "//"})
	for _, first := range slices.Concat(reservedWords, signs, []string{"a", "A", "ab", "a_1"}) {
		for _, text := range texts {
			c := cursor(t, "// x\n"+first+" a")
			for range 3 { // it reads nothing
				if c.Next(text) != (text == first) {
					t.Errorf("in front of %s Next(%q) = %t", first, text, !(text == first))
				}
			}
			if c.Failed() {
				t.Errorf("in front of %s Next(%q) has an error", first, text)
			}
		}
	}
}

func TestTake(t *testing.T) {
	texts := slices.Concat(reservedWords, signs, []string{"a", "A", "ab", "a_1"})
	c := cursor(t, strings.Join(texts, " "))
	for i, text := range texts {
		for k, other := range append(texts, "", " ", "$0", "a ") {
			if k != i && c.Take(other) {
				t.Fatalf("in front of %s Take(%q) = true", text, other)
			}
		}
		if !c.Take(text) || c.Failed() {
			t.Fatalf("in front of %s Take does not read it", text)
		}
	}
	checkEnd(t, c, -1)
}

func TestNextAndTakeInFrontOfEnd(t *testing.T) {
	for _, s := range []string{"", " ", "// x", "// a\n"} {
		c := cursor(t, s)
		for _, text := range []string{"", "a", ".", " ", "x", "End"} {
			if c.Next(text) || c.Take(text) {
				t.Errorf("%q: in front of End Next(%q) or Take = true", s, text)
			}
		}
		checkEnd(t, c, -1)
	}
}

func TestMust(t *testing.T) {
	c := cursor(t, "type T = ( a _ ) ;")
	for _, text := range []string{"type", "T", "=", "(", "a", "_", ")", ";"} {
		if c.Failed() || !c.Next(text) {
			t.Fatalf("in front of %s there is an error, or another token", text)
		}
		c.Must(text)
	}
	checkEnd(t, c, -1)
}

func TestMustOfAnotherToken(t *testing.T) {
	for _, text := range []string{"", "b", "A", "a ", "=", "type", "."} {
		c := cursor(t, "( a =")
		c.Must("(")
		c.Must(text)
		if !c.Failed() {
			t.Errorf("Must(%q) has no error", text)
		}
		checkEnd(t, c, 2)
	}
	for _, text := range []string{"", "b", "End"} { // in front of End
		c := cursor(t, "b // x")
		c.Must("b")
		c.Must(text)
		checkEnd(t, c, 6)
	}
}

func TestName(t *testing.T) {
	names := []string{"a", "Z", "a_1", "a_", "a__", "Main", "types", "package1", "func_", "x09", "end", "End", "nil", "var"}
	c := cursor(t, strings.Join(names, "\n"))
	want := 0
	for _, s := range names {
		if got, at := c.Name(); got != s || at != want || c.Failed() {
			t.Fatalf("Name() = %q, %d, %t, want %q, %d", got, at, c.Failed(), s, want)
		}
		want += len(s) + 1
	}
	checkEnd(t, c, -1)
}

func TestNameOfOtherTokens(t *testing.T) {
	for _, s := range slices.Concat(reservedWords, signs, []string{"", "// a", "_a", ".a"}) {
		c := cursor(t, "x "+s)
		c.Name()
		at := 2
		if s == "" || strings.HasPrefix(s, "//") { // there stands End
			at += len(s)
		}
		for range 3 {
			if got, at := c.Name(); got != "" || at != 0 || !c.Failed() {
				t.Errorf("Name() in front of %q = %q, %d, %t", s, got, at, c.Failed())
			}
		}
		checkEnd(t, c, at)
	}
}

func TestNoNameIsSkipped(t *testing.T) {
	c := cursor(t, "type a")
	c.Take("a")
	c.Take("type")
	if s, at := c.Name(); s != "a" || at != 5 {
		t.Error(s, at)
	}
	checkEnd(t, c, -1)
}

func TestFailed(t *testing.T) {
	c := cursor(t, "a . b")
	for _, do := range []func(){
		func() {}, func() { c.Next("b") }, func() { c.Take("b") }, func() { c.Name() }, func() { c.Must(".") }, func() { c.Next("") }, func() { c.Expr() },
	} {
		do()
		if c.Failed() {
			t.Fatal("there is an error where there is none")
		}
	}
	checkEnd(t, c, -1)
	for i, do := range []func(c *Cursor){
		func(c *Cursor) { c.Name() }, func(c *Cursor) { c.Must("a") }, func(c *Cursor) { c.Type() }, func(c *Cursor) { c.Expr() }, func(c *Cursor) { c.End() },
	} {
		c := cursor(t, " . b")
		do(c)
		if !c.Failed() {
			t.Errorf("%d has no error", i)
		}
		checkEnd(t, c, 1)
	}
}

func TestNothingIsReadAfterAnError(t *testing.T) {
	c := failed(t)
	for range 2 {
		for _, text := range []string{".", "c", "a", "b", "", ")"} {
			if c.Next(text) || c.Take(text) {
				t.Errorf("Next(%q) or Take = true after an error", text)
			}
			c.Must(text)
		}
		if s, at := c.Name(); s != "" || at != 0 {
			t.Error("after an error there is the name", s, at)
		}
		c.Type()
		c.Expr()
		checkEnd(t, c, 4)
	}
}

func TestTheFirstErrorStays(t *testing.T) {
	for i, do := range []func(c *Cursor){
		func(c *Cursor) { c.Take(".") }, func(c *Cursor) { c.Must(".") }, func(c *Cursor) { c.Must("x") }, func(c *Cursor) { c.Name() },
		func(c *Cursor) { c.Type() }, func(c *Cursor) { c.Expr() }, func(c *Cursor) { c.End() },
	} {
		c := failed(t)
		do(c)
		do(c)
		if !c.Failed() || c.Next(".") {
			t.Errorf("%d takes an error away, or reads on", i)
		}
		checkEnd(t, c, 4)
	}
}

func TestEnd(t *testing.T) {
	for _, s := range []string{"", " ", "// x", "\n//\n"} {
		c := cursor(t, s)
		for range 3 {
			checkEnd(t, c, -1)
		}
	}
	for _, s := range slices.Concat(reservedWords, signs, []string{"a", "ab"}) {
		c := cursor(t, " "+s+" b")
		for range 3 {
			checkEnd(t, c, 1)
		}
		if c.Next(s) || c.Take(s) {
			t.Errorf("%q is read behind the error of End", s)
		}
	}
}

func TestEndOfACursorThatStandsAtEndWithAnError(t *testing.T) {
	c := cursor(t, "a")
	c.Name()
	c.Name()
	checkEnd(t, c, 1)
}

func TestTypeAndExprReadAsTheirRulesSay(t *testing.T) {
	c := cursor(t, "T[a, b] x.f ; U T{} _ y = I[J]")
	if got := c.Type(); shownType(got) != shownType(of(0, "T", of(2, "a"), of(5, "b"))) {
		t.Error(shownType(got))
	}
	if got := c.Expr(); shown(got) != shown(field(10, "f", variable(8, "x"))) {
		t.Error(shown(got))
	}
	c.Must(";")
	if got := c.Type(); shownType(got) != shownType(of(14, "U")) {
		t.Error(shownType(got))
	}
	if got := c.Expr(); shown(got) != shown(lit(of(16, "T"))) {
		t.Error(shown(got))
	}
	c.Must("_")
	if got := c.Expr(); shown(got) != shown(variable(22, "y")) {
		t.Error(shown(got))
	}
	c.Must("=")
	if got := c.Type(); shownType(got) != shownType(of(26, "I", of(28, "J"))) {
		t.Error(shownType(got))
	}
	checkEnd(t, c, -1)
}

func TestTypeReadsNoDotAndNoBrace(t *testing.T) {
	for s, next := range map[string]string{"T.f": ".", "T{}": "{", "T[a]{}": "{", "T[a].f": ".", "T(a)": "(", "T, U": ",", "T[a][b]": "[", "T]": "]"} {
		c := cursor(t, s)
		if c.Type(); c.Failed() || !c.Next(next) {
			t.Errorf("behind the type of %s there is an error, or no %s", s, next)
		}
	}
}

func TestTheListOfTheCursorIsItsOwn(t *testing.T) {
	l := make([]lex.Token, 0, 9)
	l = append(l, tokens(t, "a . b")...)
	unused := l[:cap(l)]
	unused[8] = lex.Token{Kind: lex.Word, Text: "unused"}
	want := slices.Clone(unused)
	c := New(l)
	c.Expr()
	c.Must("x")
	if !slices.Equal(unused, want) {
		t.Error("the tokens changed:", unused)
	}
	c = New(l)
	for i := range unused {
		unused[i] = lex.Token{Kind: lex.Sign, Text: ";", At: 99}
	}
	if got := c.Expr(); shown(got) != shown(field(4, "b", variable(0, "a"))) {
		t.Error("the cursor reads what was written later:", shown(got))
	}
	checkEnd(t, c, -1)
}

func TestCursorsOfOneListAreApart(t *testing.T) {
	l := tokens(t, "a b")
	one, two := New(l), New(l)
	one.Must("a")
	one.Must("x")
	if s, at := two.Name(); s != "a" || at != 0 || two.Failed() || !one.Failed() {
		t.Error(s, at)
	}
}

func TestTheListThatComesWithAnError(t *testing.T) {
	for _, s := range []string{"$", strings.Repeat(" ", api.MaxText+1)} {
		l, err := lex.Tokens(s)
		if err == nil {
			t.Fatal("no error")
		}
		c := New(l)
		if c.Next("") || c.Take("") || c.Next("a") {
			t.Error("there is a token in an empty list")
		}
		if s, at := c.Name(); s != "" || at != 0 || !c.Failed() {
			t.Error("there is a token in an empty list")
		}
		c.Type()
		c.Expr()
		c.Must("")
		if c.End() == nil {
			t.Error("the error is gone")
		}
	}
}

// P7.2

func TestType(t *testing.T) {
	for s, want := range map[string]api.Type{
		"T":                     of(0, "T"),
		" // x\n a_1 // y":      of(7, "a_1"),
		"T[a]":                  of(0, "T", of(2, "a")),
		"Map[a, List[b]]":       of(0, "Map", of(4, "a"), of(7, "List", of(12, "b"))),
		"A[B[C, D], E[F[G]],H]": of(0, "A", of(2, "B", of(4, "C"), of(7, "D")), of(11, "E", of(13, "F", of(15, "G"))), of(19, "H")),
		"\tT [ T\n[ T ]\r, T ]": of(1, "T", of(5, "T", of(9, "T")), of(15, "T")),
		"T[//[,]\na//]\n]":      of(0, "T", of(8, "a")),
	} {
		if got, err := Type(s); err != nil || shownType(got) != shownType(want) {
			t.Errorf("Type(%q) = %s, %v, want %s", s, shownType(got), err, shownType(want))
		}
	}
}

func TestExpr(t *testing.T) {
	x := variable(0, "x")
	for s, want := range map[string]api.Expr{
		"x":      x,
		"x.f":    field(2, "f", x),
		"x.f.g":  field(4, "g", field(2, "f", x)),
		"x.(T)":  assert(2, of(3, "T"), x),
		"x.m()":  call(2, "m", nil, x),
		"T{}":    lit(of(0, "T")),
		"T{}.f":  field(4, "f", lit(of(0, "T"))),
		"T{x}":   lit(of(0, "T"), variable(2, "x")),
		"T{x,y}": lit(of(0, "T"), variable(2, "x"), variable(4, "y")),

		" // T{}\n x // .f":        variable(9, "x"),
		"x . ( T [ a , b ] )":      assert(4, of(6, "T", of(10, "a"), of(14, "b")), x),
		"x.m[a, T[b]](y, z.f)":     call(2, "m", []api.Type{of(4, "a"), of(7, "T", of(9, "b"))}, x, variable(13, "y"), field(18, "f", variable(16, "z"))),
		"x.m[a]()":                 call(2, "m", []api.Type{of(4, "a")}, x),
		"x.Map[b](f)":              call(2, "Map", []api.Type{of(6, "b")}, x, variable(9, "f")),
		"x.f(y).(T)":               assert(7, of(8, "T"), call(2, "f", nil, x, variable(4, "y"))),
		"T[a, U[b]]{U[b]{}, x}":    lit(of(0, "T", of(2, "a"), of(5, "U", of(7, "b"))), lit(of(11, "U", of(13, "b"))), variable(19, "x")),
		"T{U{}.f, x.(I)}.m().g":    field(20, "g", call(16, "m", nil, lit(of(0, "T"), field(6, "f", lit(of(2, "U"))), assert(11, of(12, "I"), variable(9, "x"))))),
		"x.(T[a]).m(x).(I).f":      field(18, "f", assert(14, of(15, "I"), call(9, "m", nil, assert(2, of(3, "T", of(5, "a")), x), variable(11, "x")))),
		"x.m(y.m(z), U{T{}}).f":    field(20, "f", call(2, "m", nil, x, call(6, "m", nil, variable(4, "y"), variable(8, "z")), lit(of(12, "U"), lit(of(14, "T"))))),
		"m.m[m](m).(m[m])":         assert(10, of(11, "m", of(13, "m")), call(2, "m", []api.Type{of(4, "m")}, variable(0, "m"), variable(7, "m"))),
		"\nx\n.\nf\n[\na\n]\n(\n)": call(5, "f", []api.Type{of(9, "a")}, variable(1, "x")),
	} {
		if got, err := Expr(s); err != nil || shown(got) != shown(want) {
			t.Errorf("Expr(%q) = %s, %v, want %s", s, shown(got), err, shown(want))
		}
	}
}

// checkWrong checks that a text is no type, or no expression.
func checkWrong(t *testing.T, rule, s string, code api.Code, at int) {
	t.Helper()
	var err error
	none := false
	if rule == "type" {
		var v api.Type
		v, err = Type(s)
		none = zeroType(v)
	} else {
		var v api.Expr
		v, err = Expr(s)
		none = zero(v)
	}
	if !none || !isFault(err, code, at) {
		t.Errorf("the %s of %.60q: %t, %#v, want the error %d at %d", rule, s, none, err, code, at)
	}
}

func TestTextsThatAreNoType(t *testing.T) {
	for s, at := range map[string]int{
		"": 0, "  ": 2, "// T": 4, "T[": 2, "T[]": 2, "T[a": 3, "T[a,": 4, "T[a,]": 4, "T[,a]": 2, "T[a b]": 4, "T[a][b]": 4, "T[a]]": 4, "T]": 1, "[a]": 0, "T[[a]]": 2,
		"T a": 2, "T.f": 1, "T{}": 1, "T()": 1, "T[x.f]": 3, "T[U{}]": 3, "T,": 1, "T;": 1, "_": 0, "T[_]": 2, "_T": 0, "func": 0, "T[struct]": 2, "T[a, type]": 5, "T[a[b]": 6, "T[a[b], c[": 10, "(T)": 0, "T T": 2, "T main": 2, "T[a // ]": 8, "T=": 1,
	} {
		checkWrong(t, "type", s, api.ParseError, at)
	}
}

func TestTextsThatAreNoExpression(t *testing.T) {
	for s, at := range map[string]int{
		"": 0, " \n": 2, "// x": 4, "type": 0, "x type": 2, "x.": 2, "x. ": 3, ".": 0, ".f": 0, "x..f": 2, "x y": 2, "_": 0, "x._": 2, "x.type": 2, "x,y": 1, "x;": 1, "x=y": 1, "(x)": 0, "x(y)": 1, "x]": 1, "x}": 1,
		"T[": 2, "T[]": 2, "T[]{}": 2, "T[a]": 4, "T[a].f": 4, "T[a](x)": 4, "T[a,]{}": 4, "T[a{}": 3, "T[type]{}": 2,
		"T{": 2, "T{x": 3, "T{x,": 4, "T{x,}": 4, "T{,}": 2, "T{,x}": 2, "T{x y}": 4, "T{x)": 3, "T{)": 2, "T{}}": 3, "T{}{}": 3, "T{}[a]": 3, "T{};": 3, "T{type}": 2, "T{x]}": 3, "T{x;y}": 3, "T{(x)}": 2,
		"x.f(": 4, "x.f(y": 5, "x.f(y,)": 6, "x.f(,y)": 4, "x.f(y}": 5, "x.f(}": 4, "x.f)": 3, "x.f())": 5, "x.f()()": 5, "x.f[a]": 6, "x.f[a].g": 6, "x.f[a]{}": 6, "x.f[]()": 4, "x.f[a,]()": 6, "x.f[y.g]()": 5, "x.f{}": 3, "x.f[a](y": 8, "x.f(struct)": 4,
		"x.(": 3, "x.()": 3, "x.(T": 4, "x.(T}": 4, "x.(T,U)": 4, "x.(T{})": 4, "x.(T.f)": 4, "x.(type)": 3, "x.(T[a)": 6, "x.((T))": 3, "x.(T)(y)": 5, "x.(T)f": 5, "x.(T)[a]": 5, "x.{": 2, "x.[a]()": 2,
	} {
		checkWrong(t, "expr", s, api.ParseError, at)
	}
}

func TestReservedWordsAreNoNames(t *testing.T) {
	for _, word := range reservedWords {
		for s, at := range map[string]int{"@": 0, "T[@]": 2, "T[a, @]": 5} {
			checkWrong(t, "type", strings.Replace(s, "@", word, 1), api.ParseError, at)
		}
		for s, at := range map[string]int{"@": 0, "@{}": 0, "x.@": 2, "x.@()": 2, "x.(@)": 3, "T{@}": 2, "x.f(@)": 4, "x.f[@]()": 4, "T[@]{}": 2, "T{x, @}": 5} {
			checkWrong(t, "expr", strings.Replace(s, "@", word, 1), api.ParseError, at)
		}
	}
}

func TestErrorsOfTokensComeFirst(t *testing.T) {
	for s, at := range map[string]int{
		"/": 0, "T / a": 2, "$0": 0, "T[1]": 2, ". . $": 4, "type 1": 5, "T]] /": 4, "é": 0, "T\x00": 1, "T{} +": 4, "// x\n$": 5,
		strings.Repeat("a", api.MaxText+1): api.MaxText, "$" + strings.Repeat(" ", api.MaxText): api.MaxText, strings.Repeat(".", api.MaxText+1): api.MaxText,
	} {
		checkWrong(t, "type", s, api.LexError, at)
		checkWrong(t, "expr", s, api.LexError, at)
	}
}

func TestErrorsAreFoundByTheirCodes(t *testing.T) {
	for _, rule := range []string{"type", "expr"} {
		read := func(s string) error {
			if rule == "type" {
				_, err := Type(s)
				return err
			}
			_, err := Expr(s)
			return err
		}
		if err := read("."); !errors.Is(err, api.ParseError) || errors.Is(err, api.LexError) || err.Error() != "error 2" {
			t.Error(rule, err)
		}
		if err := read("$"); !errors.Is(err, api.LexError) || errors.Is(err, api.ParseError) || err.Error() != "error 1" {
			t.Error(rule, err)
		}
	}
}

func TestTheDeepestTexts(t *testing.T) {
	const deep = api.MaxText / 2
	for _, s := range []string{"T" + strings.Repeat("[a", deep-1), strings.Repeat("T[", deep)} {
		checkWrong(t, "type", s, api.ParseError, len(s))
		checkWrong(t, "expr", s, api.ParseError, len(s))
	}
	for _, s := range []string{strings.Repeat("T{", deep), strings.Repeat("a.", deep), strings.Repeat("x.m(", deep/2), strings.Repeat("(", api.MaxText)} {
		at := len(s)
		if s[0] == '(' {
			at = 0
		}
		checkWrong(t, "expr", s, api.ParseError, at)
	}
	half := strings.Repeat("T[", deep/2) + "a"
	if got, err := Type(half + strings.Repeat("]", deep/2)); err != nil || types.Depth(got) != deep/2+1 {
		t.Error(types.Depth(got), err)
	}
	checkWrong(t, "type", half+strings.Repeat("]", deep/2-1), api.ParseError, len(half)+deep/2-1)
	for _, s := range []string{
		strings.Repeat("T{", 20000) + "x" + strings.Repeat("}", 20000), "x" + strings.Repeat(".f", deep-1), "x" + strings.Repeat(".m()", deep/2-1), "x" + strings.Repeat(".(T)", deep/2-1),
		strings.Repeat("x.m(", 10000) + "x" + strings.Repeat(")", 10000), "T{x" + strings.Repeat(",x", 30000) + "}",
	} {
		e, err := Expr(s)
		if err != nil || expr.Text(e) != strings.ReplaceAll(s, ",", ", ") {
			t.Errorf("%.20q: %v", s, err)
		}
	}
}

func TestResultsAreNewMemory(t *testing.T) {
	const s = "T[a, U[b]]{x.m[c](y, z).(V[d]).f, W{}}"
	want := shown(mustRead(t, s))
	e := mustRead(t, s)
	again := mustRead(t, s)
	number(reflect.ValueOf(&e).Elem(), new(int))
	if checkNumbers(t, reflect.ValueOf(e), new(int)); shown(again) != want {
		t.Error("another result changed:", shown(again))
	}
	if third := mustRead(t, s); shown(third) != want {
		t.Error("a later result is another one:", shown(third))
	}
	c := cursor(t, "x.f(y) T[a]")
	one := c.Expr()
	two := c.Type()
	checkEnd(t, c, -1)
	if got := shown(one) + shownType(two); got != shown(call(2, "f", nil, variable(0, "x"), variable(4, "y")))+shownType(of(7, "T", of(9, "a"))) {
		t.Error("what was read first changed:", got)
	}
}

// mustRead returns the expression of a text that is one.
func mustRead(t *testing.T, s string) api.Expr {
	t.Helper()
	e, err := Expr(s)
	if err != nil {
		t.Fatal(s, err)
	}
	return e
}

// number writes 0, 1, 2 and so on into the numbers in v, up to the capacities
// of its lists.
func number(v reflect.Value, count *int) {
	switch v.Kind() {
	case reflect.Int:
		v.SetInt(int64(*count))
		*count++
	case reflect.Struct:
		for i := range v.NumField() {
			number(v.Field(i), count)
		}
	case reflect.Slice:
		for i := range v.Cap() {
			number(v.Slice(0, v.Cap()).Index(i), count)
		}
	}
}

// checkNumbers checks that the numbers of number are still there: no two lists
// share memory.
func checkNumbers(t *testing.T, v reflect.Value, count *int) {
	t.Helper()
	switch v.Kind() {
	case reflect.Int:
		if v.Int() != int64(*count) {
			t.Fatalf("the parts %d and %d share memory", v.Int(), *count)
		}
		*count++
	case reflect.Struct:
		for i := range v.NumField() {
			checkNumbers(t, v.Field(i), count)
		}
	case reflect.Slice:
		for i := range v.Cap() {
			checkNumbers(t, v.Slice(0, v.Cap()).Index(i), count)
		}
	}
}

// The rest compares the package with the rules of the chapter, written as a
// table: all texts of some length are tried.

// word stands for any name in the rules.
const word = "NAME"

// rules are those of the chapter, without braces and brackets: types, exprs
// and rests are what stands in braces.
var rules = map[string][][]string{
	"type":  {{word}, {word, "targs"}},
	"targs": {{"[", "type", "types", "]"}},
	"types": {{}, {",", "type", "types"}},
	"args":  {{}, {"expr", "exprs"}},
	"exprs": {{}, {",", "expr", "exprs"}},
	"expr":  {{"first", "rests"}},
	"rests": {{}, {".", "rest", "rests"}},
	"first": {{word}, {word, "{", "args", "}"}, {word, "targs", "{", "args", "}"}},
	"rest":  {{word}, {word, "(", "args", ")"}, {word, "targs", "(", "args", ")"}, {"(", "type", ")"}},
}

// kinds are all kinds of tokens: NAME, a Word that is none, and all signs.
var kinds = append([]string{word, "return"}, signs...)

// expected holds all that may follow some tokens: each item is a list of words
// of the rules, joined by spaces, that begins with a token, or is empty.
type expected map[string]bool

// expect adds what begins with a list of words, whose first one may be a rule.
func (x expected) expect(list string) {
	first, rest, _ := strings.Cut(list, " ")
	ways, isRule := rules[first]
	if !isRule {
		x[list] = true
	}
	for _, way := range ways {
		x.expect(strings.TrimSuffix(strings.Join(append(slices.Clone(way), rest), " "), " "))
	}
}

// after returns what may follow when a token was read, too; nothing, if it
// cannot stand there.
func (x expected) after(kind string) expected {
	next := expected{}
	for list := range x {
		if first, rest, _ := strings.Cut(list, " "); first == kind {
			next.expect(rest)
		}
	}
	return next
}

// written returns a text with tokens of some kinds, each after one of the gaps,
// and the offsets of the tokens. Its names all differ.
func written(list []string, gaps []string) (string, []int) {
	text := ""
	var offsets []int
	for i, kind := range list {
		text += gaps[i%len(gaps)]
		offsets = append(offsets, len(text))
		if kind == word {
			kind = "n" + strconv.Itoa(i)
		}
		text += kind
	}
	return text, offsets
}

// everyGap are lists of what stands in front of the tokens of a text. No two
// words follow each other where there is nothing, if only the last token of the
// text is wrong, and there is something in front of that.
var everyGap = [][]string{{" "}, {"", " ", "//.\n", "\t\r\n", "// x[\n//\n"}}

// everyText calls do with all lists of at most n tokens that may begin a type,
// or an expression, and with what may follow: an empty list of words, too, if
// they are one.
func everyText(rule string, n int, do func(list []string, x expected)) {
	var try func(list []string, x expected)
	try = func(list []string, x expected) {
		do(list, x)
		for _, kind := range kinds {
			if next := x.after(kind); len(next) > 0 && len(list) < n {
				try(append(slices.Clone(list), kind), next)
			}
		}
	}
	x := expected{}
	x.expect(rule)
	try(nil, x)
}

// readAs reads a text by a rule, and returns the text and the offsets of what is
// read; or nothing, and an error.
func readAs(rule, s string) (string, string, error) {
	if rule == "type" {
		v, err := Type(s)
		return types.Text(v), shownType(v), err
	}
	v, err := Expr(s)
	return expr.Text(v), shown(v), err
}

// placer gives the parts of types and expressions the offsets of the tokens
// that they consist of.
type placer struct{ offsets []int }

// pass goes over n tokens, and returns the offset of the first one.
func (p *placer) pass(n int) int {
	at := p.offsets[0]
	p.offsets = p.offsets[n:]
	return at
}

// placed calls place with all items of a list in brackets, or the like, with
// commas between them.
func placed[T any](p *placer, l []T, place func(T) T) []T {
	p.pass(1)
	var fresh []T
	for i, item := range l {
		if i > 0 {
			p.pass(1)
		}
		fresh = append(fresh, place(item))
	}
	p.pass(1)
	return fresh
}

func (p *placer) typ(t api.Type) api.Type {
	t.At = p.pass(1)
	if len(t.Args) > 0 {
		t.Args = placed(p, t.Args, p.typ)
	}
	return t
}

func (p *placer) expr(e api.Expr) api.Expr {
	switch e.Kind {
	case api.Var:
		e.At = p.pass(1)
	case api.Lit:
		e.Type = p.typ(e.Type)
		e.At = e.Type.At
		e.Kids = placed(p, e.Kids, p.expr)
	default:
		kids := []api.Expr{p.expr(e.Kids[0])}
		p.pass(1)
		switch e.Kind {
		case api.Field:
			e.At = p.pass(1)
		case api.Assert:
			e.At = p.pass(1)
			e.Type = p.typ(e.Type)
			p.pass(1)
		case api.Call:
			e.At = p.pass(1)
			if len(e.Targs) > 0 {
				e.Targs = placed(p, e.Targs, p.typ)
			}
			kids = append(kids, placed(p, e.Kids[1:], p.expr)...)
		}
		e.Kids = kids
	}
	return e
}

// wantPlaced returns what readAs shows, with the offsets of tokens.
func wantPlaced(rule, s string, offsets []int) string {
	p := &placer{offsets: offsets}
	if rule == "type" {
		v, _ := Type(s)
		return shownType(p.typ(v))
	}
	v, _ := Expr(s)
	return shown(p.expr(v))
}

// lengths are the most tokens of the texts that are tried for each rule. Of wrong
// texts there are many more, so these are shorter.
var lengths = map[string]int{"type": 14, "expr": 13}

func TestEveryShortTextOfTheRules(t *testing.T) {
	for rule, n := range lengths {
		count := 0
		everyText(rule, n, func(list []string, x expected) {
			if !x[""] {
				return
			}
			count++
			for _, gaps := range everyGap {
				s, offsets := written(list, gaps)
				text, offsetsRead, err := readAs(rule, s)
				if err != nil {
					t.Fatalf("the %s of %q: %v", rule, s, err)
				}
				// Right types and expressions are told by their texts.
				compact, _ := written(list, []string{""})
				if strings.ReplaceAll(text, ", ", ",") != compact {
					t.Fatalf("the %s of %q is %s", rule, s, text)
				}
				if want := wantPlaced(rule, s, offsets); offsetsRead != want {
					t.Fatalf("the %s of %q is %s, want %s", rule, s, offsetsRead, want)
				}
			}
		})
		t.Log("the rule", rule, "has", count, "texts")
		if count < 30 {
			t.Error("these are too few")
		}
	}
}

func TestEveryShortTextThatIsWrong(t *testing.T) {
	for rule, n := range lengths {
		everyText(rule, n-3, func(list []string, x expected) {
			for _, gaps := range everyGap {
				if s, _ := written(list, gaps); !x[""] { // End cannot stand behind it
					checkWrong(t, rule, s, api.ParseError, len(s))
					checkWrong(t, rule, s+" // x", api.ParseError, len(s)+5)
				}
				for _, kind := range kinds {
					if len(x.after(kind)) > 0 {
						continue
					}
					s, _ := written(list, gaps)
					wrong, _ := written([]string{kind}, []string{" "})
					for _, behind := range []string{"", " ", " .", " ] }", " a", " return { ("} {
						checkWrong(t, rule, s+wrong+behind, api.ParseError, len(s)+1)
					}
				}
			}
		})
	}
}

func TestCursorsStopBehindEveryShortText(t *testing.T) {
	for rule, n := range lengths {
		everyText(rule, n, func(list []string, x expected) {
			for _, kind := range kinds {
				if !x[""] || len(x.after(kind)) > 0 {
					continue
				}
				s, _ := written(list, []string{""})
				_, want, err := readAs(rule, s)
				behind, _ := written([]string{kind}, []string{" "})
				c := cursor(t, s+behind)
				got := ""
				if rule == "type" {
					got = shownType(c.Type())
				} else {
					got = shown(c.Expr())
				}
				if err != nil || got != want || c.Failed() || !c.Take(behind[1:]) {
					t.Fatalf("the %s of %q is %s, want %s; %t", rule, s+behind, got, want, c.Failed())
				}
				checkEnd(t, c, -1)
			}
		})
	}
}

// P7.3

func TestWhatIsReadIsRight(t *testing.T) {
	for rule, n := range lengths {
		everyText(rule, n, func(list []string, x expected) {
			if !x[""] {
				return
			}
			s, _ := written(list, []string{" "})
			if rule == "type" {
				if v, err := Type(s); err != nil || !types.Right(v) {
					t.Fatalf("%q is read as %s, which is not right, %v", s, shownType(v), err)
				}
			} else if v, err := Expr(s); err != nil || !expr.Right(v) {
				t.Fatalf("%q is read as %s, which is not right, %v", s, shown(v), err)
			}
		})
	}
	for _, s := range []string{"Main", "types", "a_1", "package_", "x[a_]{b__}.func1.Return(x).(Struct)"} {
		if v, err := Expr(s); err != nil || !expr.Right(v) {
			t.Errorf("%q is read as %s, which is not right, %v", s, shown(v), err)
		}
	}
}

func TestWhatACursorReadsIsRight(t *testing.T) {
	c := cursor(t, "x.m[T[a]](y).(I).f, T[a]{} ) T[a] = a")
	one := c.Expr()
	c.Must(",")
	two := c.Expr()
	c.Must(")")
	three := c.Type()
	c.Must("=")
	four := c.Type()
	checkEnd(t, c, -1)
	if !expr.Right(one) || !expr.Right(two) || !types.Right(three) || !types.Right(four) {
		t.Error(shown(one), shown(two), shownType(three), shownType(four))
	}
}

// Rule 8: the functions may be called concurrently.

func TestConcurrentCalls(t *testing.T) {
	shared := tokens(t, "x.m[a](T{}) ;")
	wants := map[string]string{}
	for _, s := range []string{"x.m[a](T{})", "T[a, b]{x}.(I)", "x.", "$"} {
		e, err := Expr(s)
		wants[s] = shown(e) + errorText(err)
	}
	var all sync.WaitGroup
	for range 8 {
		all.Go(func() {
			for range 500 {
				for s, want := range maps.All(wants) {
					if e, err := Expr(s); shown(e)+errorText(err) != want {
						t.Error("a concurrent call went wrong")
						return
					}
				}
				c := New(shared)
				if e := c.Expr(); shown(e) != wants["x.m[a](T{})"] || !c.Take(";") || c.End() != nil {
					t.Error("a concurrent cursor went wrong")
					return
				}
			}
		})
	}
	all.Wait()
}

// errorText returns the text of an error; "", if there is none.
func errorText(err error) string {
	if err == nil {
		return ""
	}
	return err.Error()
}

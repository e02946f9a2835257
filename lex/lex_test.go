package lex

import (
	"errors"
	"math"
	"regexp"
	"slices"
	"strings"
	"sync"
	"testing"

	"castings/api"
)

// Patterns of the chapter, for what a text begins with.
var (
	skipped = regexp.MustCompile(`^(?:[\x09\x0a\x0d\x20]|//[^\x0a]*)*`)
	aWord   = regexp.MustCompile(`^[A-Za-z][A-Za-z0-9_]*`)
	aSign   = regexp.MustCompile(`^[()\[\]{}.,;=_]`)
)

// wantTokens returns the tokens of s by the patterns; or nil and the offset of
// the first byte at which a token should begin, but none does.
func wantTokens(s string) ([]Token, int) {
	var l []Token
	at := 0
	for {
		at += len(skipped.FindString(s[at:]))
		rest := s[at:]
		if rest == "" {
			return append(l, Token{End, "", at}), -1
		}
		if text := aWord.FindString(rest); text != "" {
			l = append(l, Token{Word, text, at})
			at += len(text)
		} else if text := aSign.FindString(rest); text != "" {
			l = append(l, Token{Sign, text, at})
			at += len(text)
		} else {
			return nil, at
		}
	}
}

// checkTokens checks Tokens(s) against tokens that are wanted, or, if there are
// none, against an offset.
func checkTokens(t *testing.T, s string, want []Token, wrongAt int) {
	t.Helper()
	got, err := Tokens(s)
	if want != nil {
		if err != nil || !slices.Equal(got, want) {
			t.Errorf("Tokens(%.40q) = %.200v, %v, want %.200v", s, got, err, want)
		}
		return
	}
	f, ok := err.(api.Fault)
	if len(got) != 0 || !ok || f.Code != api.LexError || f.At != wrongAt {
		t.Errorf("Tokens(%.40q) = %.200v, %#v, want a LexError at %d", s, got, err, wrongAt)
	}
}

// everyString calls do with every string of at most n of the parts.
func everyString(parts []string, n int, do func(s string)) {
	do("")
	if n == 0 {
		return
	}
	for _, p := range parts {
		everyString(parts, n-1, func(s string) {
			do(p + s)
		})
	}
}

// pieces are parts of texts: tokens, gaps, and bytes that begin nothing.
var pieces = []string{"a", "Z", "9", "_", "/", "//", "\n", "\r", " ", "(", ".", "=", "$", "\x00", "\xc3"}

// P3.1

func TestTokens(t *testing.T) {
	for s, want := range map[string][]Token{
		"":                  {{End, "", 0}},
		"a":                 {{Word, "a", 0}, {End, "", 1}},
		"a._ // x":          {{Word, "a", 0}, {Sign, ".", 1}, {Sign, "_", 2}, {End, "", 8}},
		"type T struct{};":  {{Word, "type", 0}, {Word, "T", 5}, {Word, "struct", 7}, {Sign, "{", 13}, {Sign, "}", 14}, {Sign, ";", 15}, {End, "", 16}},
		"x.Map[b](f)":       {{Word, "x", 0}, {Sign, ".", 1}, {Word, "Map", 2}, {Sign, "[", 5}, {Word, "b", 6}, {Sign, "]", 7}, {Sign, "(", 8}, {Word, "f", 9}, {Sign, ")", 10}, {End, "", 11}},
		"_ = T{a,b}":        {{Sign, "_", 0}, {Sign, "=", 2}, {Word, "T", 4}, {Sign, "{", 5}, {Word, "a", 6}, {Sign, ",", 7}, {Word, "b", 8}, {Sign, "}", 9}, {End, "", 10}},
		"func\treturn\r\nx": {{Word, "func", 0}, {Word, "return", 5}, {Word, "x", 13}, {End, "", 14}},
	} {
		checkTokens(t, s, want, 0)
	}
}

func TestWords(t *testing.T) {
	for _, s := range []string{
		"a", "z", "A", "Z", "a_1", "a_", "a__", "a1", "x09", "Abc_9z", "main", "package", "typeof", "var",
		"abcdefghijklmnopqrstuvwxyzABCDEFGHIJKLMNOPQRSTUVWXYZ_0123456789", strings.Repeat("a_1", 20000),
	} {
		checkTokens(t, s, []Token{{Word, s, 0}, {End, "", len(s)}}, 0)
		checkTokens(t, " "+s+"\n", []Token{{Word, s, 1}, {End, "", len(s) + 2}}, 0)
	}
}

func TestWordsEndWhereSignsAndGapsBegin(t *testing.T) {
	for _, c := range "()[]{}.,;=" {
		checkTokens(t, "ab"+string(c)+"cd", []Token{{Word, "ab", 0}, {Sign, string(c), 2}, {Word, "cd", 3}, {End, "", 5}}, 0)
	}
	for _, c := range "\t\n\r " {
		checkTokens(t, "ab"+string(c)+"cd", []Token{{Word, "ab", 0}, {Word, "cd", 3}, {End, "", 5}}, 0)
	}
	checkTokens(t, "ab//cd\nef", []Token{{Word, "ab", 0}, {Word, "ef", 7}, {End, "", 9}}, 0)
}

func TestSigns(t *testing.T) {
	for _, c := range "()[]{}.,;=_" {
		s := string(c)
		checkTokens(t, s, []Token{{Sign, s, 0}, {End, "", 1}}, 0)
		checkTokens(t, s+s+" "+s, []Token{{Sign, s, 0}, {Sign, s, 1}, {Sign, s, 3}, {End, "", 4}}, 0)
	}
}

func TestAnUnderscoreInFrontOfAWord(t *testing.T) {
	checkTokens(t, "_a", []Token{{Sign, "_", 0}, {Word, "a", 1}, {End, "", 2}}, 0)
	checkTokens(t, "__a_", []Token{{Sign, "_", 0}, {Sign, "_", 1}, {Word, "a_", 2}, {End, "", 4}}, 0)
	checkTokens(t, "a _b", []Token{{Word, "a", 0}, {Sign, "_", 2}, {Word, "b", 3}, {End, "", 4}}, 0)
	checkTokens(t, "_1", nil, 1)
}

func TestBlanks(t *testing.T) {
	for c := range 256 {
		b := string([]byte{byte(c)})
		if strings.Contains("\x09\x0a\x0d\x20", b) {
			checkTokens(t, b, []Token{{End, "", 1}}, 0)
			checkTokens(t, b+"a"+b+b, []Token{{Word, "a", 1}, {End, "", 4}}, 0)
		} else if got, err := Tokens(b); err == nil && len(got) != 2 {
			t.Errorf("the byte %d is skipped", c)
		}
	}
}

func TestComments(t *testing.T) {
	for s, want := range map[string][]Token{
		"//":             {{End, "", 2}},
		"///":            {{End, "", 3}},
		"//\n":           {{End, "", 3}},
		"// x\ny":        {{Word, "y", 5}, {End, "", 6}},
		"//x//y\nz":      {{Word, "z", 7}, {End, "", 8}},
		"//x\n//y\nz//":  {{Word, "z", 8}, {End, "", 11}},
		"//x\n\n//y\n":   {{End, "", 9}},
		"//x\ry":         {{End, "", 5}}, // only a line feed ends a comment
		"//x\r\ny":       {{Word, "y", 5}, {End, "", 6}},
		"a//\"/*$1\nb":   {{Word, "a", 0}, {Word, "b", 9}, {End, "", 10}},
		"//\x00\xff\xc3": {{End, "", 5}},
		"//é\u2028x\na":  {{Word, "a", 9}, {End, "", 10}},
		"a///\n//\n.":    {{Word, "a", 0}, {Sign, ".", 8}, {End, "", 9}},
		"//(a)\n(//)\n)": {{Sign, "(", 6}, {Sign, ")", 11}, {End, "", 12}},
	} {
		checkTokens(t, s, want, 0)
	}
}

func TestSlashesThatBeginNoComment(t *testing.T) {
	for s, at := range map[string]int{
		"/": 0, "/a": 0, "a/": 1, "a / b": 2, "/ /": 0, "/\n/": 0, "//\n/": 3, "//\n/ /": 3, "a/b//c": 1, "/*x*/": 0, "/_/": 0, "a\n/": 2,
	} {
		checkTokens(t, s, nil, at)
	}
}

func TestTokensOfWrongTexts(t *testing.T) {
	for s, at := range map[string]int{
		"1": 0, "1a": 0, "a 1": 2, "a.1": 2, "a[0]": 2, "_9": 1,
		"a-b": 1, "$0": 0, "a$": 1, "a\x00": 1, "\x00": 0, "a\x0b": 1, "a\x0c": 1, "\x7f": 0,
		"é": 0, "aé": 1, "a é": 2, "\x80": 0, "a\xff": 1, "a\xc3": 1, "\ufeffa": 0, "a\u00a0b": 1, "a\u2028b": 1, "ª": 0, "a\u0661": 1,
		"a\u0161": 1, "\u0141": 0, // the low bytes of these are those of a and A
		"a := b": 2, "a != b": 2, "\"a\"": 0, "a+1": 1, "*a": 0, "a|b": 1, "a&b": 1, "<a>": 0, "a'": 1, "`": 0, "a~": 1, "#": 0, "a@b": 1, "\\": 0, "^": 0, "?": 0, "%": 0, "!": 0,
		"// x\n$": 5, "//$\n$": 4, "a // $\nb $ c 1": 9, "1 $": 0, "a $ 1": 2,
	} {
		checkTokens(t, s, nil, at)
	}
}

func TestTokensOfEveryByte(t *testing.T) {
	for a := range 256 {
		for b := range 256 {
			two := string([]byte{byte(a), byte(b)})
			for _, s := range []string{two[:1], two, two + "x", "x" + two, "//" + two + "x", "x// " + two} {
				want, at := wantTokens(s)
				checkTokens(t, s, want, at)
			}
		}
	}
}

func TestTokensOfEveryShortText(t *testing.T) {
	everyString(pieces, 4, func(s string) {
		want, at := wantTokens(s)
		checkTokens(t, s, want, at)
	})
}

func TestTokensOfTheLongestTexts(t *testing.T) {
	const most = 1 << 16
	if api.MaxText != most {
		t.Fatal("MaxText is", api.MaxText)
	}
	for _, s := range []string{
		strings.Repeat("a", most), strings.Repeat("(", most), strings.Repeat("_", most), strings.Repeat(" ", most), strings.Repeat("/", most),
		strings.Repeat("a ", most/2), strings.Repeat("//x\n", most/4), strings.Repeat(" ", most-1) + "a", "a" + strings.Repeat("\n", most-1), "//" + strings.Repeat("\xff", most-2),
	} {
		want, at := wantTokens(s)
		if want == nil {
			t.Fatalf("a text of the test is wrong at %d", at)
		}
		checkTokens(t, s, want, 0)
	}
	checkTokens(t, strings.Repeat("a", most-1)+"$", nil, most-1)
	checkTokens(t, "$"+strings.Repeat("a", most-1), nil, 0)
}

func TestTokensOfTextsTooLong(t *testing.T) {
	const most = 1 << 16
	for _, s := range []string{
		strings.Repeat("a", most+1), strings.Repeat(" ", most+1), strings.Repeat("/", most+1), "a" + strings.Repeat(" ", most),
		"$" + strings.Repeat("a", most), strings.Repeat("1", most+1), strings.Repeat("a", most) + "$", strings.Repeat("a", most) + "\xff",
		strings.Repeat("é", most), strings.Repeat("\x00", 1<<20), strings.Repeat("a ", 1<<20),
	} {
		checkTokens(t, s, nil, most) // the length counts first, whatever else is wrong
	}
}

func TestTheErrorOfTokensIsFoundByItsCode(t *testing.T) {
	_, err := Tokens("a /")
	if err == nil || !errors.Is(err, api.LexError) || errors.Is(err, api.ParseError) || err.Error() != "error 1" {
		t.Error(err)
	}
}

func TestTokensAreNewEachTime(t *testing.T) {
	const s = "type T struct {}; // x"
	one, _ := Tokens(s)
	two, _ := Tokens(s)
	for i := range one {
		one[i] = Token{}
	}
	one = append(one, Token{})
	want, _ := wantTokens(s)
	if !slices.Equal(two, want) {
		t.Error(two)
	}
	checkTokens(t, s, want, 0)
}

// P3.2

func TestSame(t *testing.T) {
	a, b := Token{Word, "a", 0}, Token{Word, "b", 1}
	lists := [][]Token{ // each of another kind or text than all others
		nil,
		{{}},
		{a}, {b}, {a, a}, {a, b}, {b, a}, {a, b, b},
		{{Sign, "a", 0}}, {{End, "a", 0}}, {{0, "a", 0}}, {{-1, "a", 0}}, {{1 << 32, "a", 0}}, {{1<<32 + 1, "a", 0}},
		{{Word, "", 0}}, {{Word, "A", 0}}, {{Word, "a ", 0}}, {{Word, "aa", 0}}, {{Word, "a b", 0}}, {{Word, "\xff", 0}}, {{Word, "\ufffd", 0}},
		{{End, "", 0}}, {a, {End, "", 1}}, {{End, "", 0}, a}, {a, {Sign, "b", 1}}, {{Sign, "a", 0}, b},
	}
	for i, x := range lists {
		for j, y := range lists {
			if got := Same(x, y); got != (i == j) {
				t.Errorf("Same(%v, %v) = %t", x, y, got)
			}
		}
	}
}

func TestSameWhateverTheOffsets(t *testing.T) {
	one := []Token{{Word, "a", 0}, {Sign, ".", 1}, {End, "", 2}}
	two := []Token{{Word, "a", 7}, {Sign, ".", -1}, {End, "", math.MaxInt}}
	if !Same(one, two) || !Same(two, one) || Same(one, two[:2]) || Same(one[:2], two) || Same(one, two[1:]) {
		t.Error("offsets matter, or lengths do not")
	}
}

func TestSameOfEmptyLists(t *testing.T) {
	if !Same(nil, nil) || !Same(nil, []Token{}) || !Same([]Token{}, nil) || Same(nil, []Token{{}}) || Same([]Token{{End, "", 0}}, []Token{}) {
		t.Error("empty lists are compared wrong")
	}
}

func TestSameOfTexts(t *testing.T) {
	for _, l := range [][2]string{
		{"", "// x"}, {"a", " a "}, {"a.b", "a . b"}, {"a//\nb", "a b"}, {"_a", "_ a"}, {"a_", "\na_//"}, {"f(x)", "f\n(\nx\n)"},
	} {
		one, _ := Tokens(l[0])
		two, _ := Tokens(l[1])
		if !Same(one, two) {
			t.Errorf("%q and %q have other tokens", l[0], l[1])
		}
	}
	for _, l := range [][2]string{{"a_", "a _"}, {"ab", "a b"}, {"", "a"}, {"a//b", "a b"}, {"a", "A"}, {"()", ")("}} {
		one, _ := Tokens(l[0])
		two, _ := Tokens(l[1])
		if Same(one, two) {
			t.Errorf("%q and %q have the same tokens", l[0], l[1])
		}
	}
}

// P3.3

func TestJoin(t *testing.T) {
	for _, want := range []struct {
		l    []Token
		text string
	}{
		{nil, ""},
		{[]Token{}, ""},
		{[]Token{{End, "", 0}}, ""},
		{[]Token{{Word, "a", 0}}, "a"},
		{[]Token{{Word, "a", 0}, {End, "", 1}}, "a"},
		{[]Token{{Word, "a", 0}, {Sign, ".", 1}, {Word, "b", 2}, {End, "", 3}}, "a . b"},
		{[]Token{{Word, "a", 9}, {Word, "b", 0}}, "a b"},
		// Tokens that no text has
		{[]Token{{End, "", 0}, {Word, "a", 0}, {End, "x", 0}, {End, "", 0}, {Word, "b", 0}}, "a b"},
		{[]Token{{End, "x", 0}}, ""},
		{[]Token{{Word, "", 0}, {Sign, "", 0}, {0, "", 0}}, "  "},
		{[]Token{{0, "a", 0}, {4, "b", 0}, {-1, "c", 0}, {1<<32 + 3, "d", 0}}, "a b c d"},
		{[]Token{{Word, " ", 0}, {Word, "\n", 0}, {Word, "\xff", 0}}, "  \n \xff"},
	} {
		if got := Join(want.l); got != want.text {
			t.Errorf("Join(%v) = %q, want %q", want.l, got, want.text)
		}
	}
}

func TestJoinOfATokenList(t *testing.T) {
	for s, want := range map[string]string{
		"type List[a Any] struct {}; // x\n_=a_1.f": "type List [ a Any ] struct { } ; _ = a_1 . f",
		"\t_a\r\n": "_ a", "()[]{}.,;=_": "( ) [ ] { } . , ; = _", "// x": "", "": "", "a//\nb": "a b",
	} {
		l, err := Tokens(s)
		if got := Join(l); err != nil || got != want {
			t.Errorf("%q is joined to %q, want %q", s, got, want)
		}
	}
}

func TestJoinOfALongList(t *testing.T) {
	l := slices.Repeat([]Token{{Word, "ab", 0}, {Sign, "(", 0}, {End, "", 0}}, 100000)
	if got, want := Join(l), strings.Repeat(" ab (", 100000)[1:]; got != want {
		t.Errorf("a long list is joined to %.60q", got)
	}
}

func TestArgumentsStay(t *testing.T) {
	l := make([]Token, 2, 4)
	l[0], l[1] = Token{Word, "a", 0}, Token{End, "", 1}
	want := slices.Clone(l[:4])
	Join(l)
	Same(l, l[:1])
	if !slices.Equal(l[:4], want) {
		t.Error(l[:4])
	}
}

func TestLine(t *testing.T) {
	for s, wants := range map[string][][2]int{ // by offset, from 0 to the length
		"":             {{1, 1}},
		"a":            {{1, 1}, {1, 2}},
		"\n":           {{1, 1}, {2, 1}},
		"\n\n":         {{1, 1}, {2, 1}, {3, 1}},
		"ab\n\ncd\n":   {{1, 1}, {1, 2}, {1, 3}, {2, 1}, {3, 1}, {3, 2}, {3, 3}, {4, 1}},
		"a\rb\r\nc":    {{1, 1}, {1, 2}, {1, 3}, {1, 4}, {1, 5}, {2, 1}, {2, 2}},
		"é\u2028\ny":   {{1, 1}, {1, 2}, {1, 3}, {1, 4}, {1, 5}, {1, 6}, {2, 1}, {2, 2}},
		"//\xff\n\x00": {{1, 1}, {1, 2}, {1, 3}, {1, 4}, {2, 1}, {2, 2}},
	} {
		if len(wants) != len(s)+1 {
			t.Fatalf("the offsets of %q are not all listed", s)
		}
		for at, want := range wants {
			if line, column := Line(s, at); line != want[0] || column != want[1] {
				t.Errorf("Line(%q, %d) = %d, %d, want %v", s, at, line, column, want)
			}
		}
	}
}

func TestLineOutsideTheText(t *testing.T) {
	for _, s := range []string{"", "a", "\n", "a\nb", "\n\nabc\n", "a\n\nbc"} {
		for _, at := range []int{-1, -2, -100, math.MinInt} {
			if line, column := Line(s, at); line != 1 || column != 1 {
				t.Errorf("Line(%q, %d) = %d, %d", s, at, line, column)
			}
		}
		wantLine, wantColumn := Line(s, len(s))
		for _, at := range []int{len(s) + 1, len(s) + 2, 1 << 32, math.MaxInt} {
			if line, column := Line(s, at); line != wantLine || column != wantColumn {
				t.Errorf("Line(%q, %d) = %d, %d, want %d, %d", s, at, line, column, wantLine, wantColumn)
			}
		}
	}
	if line, column := Line("a\nbc", 99); line != 2 || column != 3 {
		t.Error(line, column)
	}
}

func TestLineOfALongText(t *testing.T) {
	s := strings.Repeat("ab\n", 100000) // longer than a text may be that has tokens
	for at, want := range map[int][2]int{0: {1, 1}, 2: {1, 3}, 3: {2, 1}, 3*70000 + 1: {70001, 2}, len(s): {100001, 1}} {
		if line, column := Line(s, at); line != want[0] || column != want[1] {
			t.Errorf("Line(.., %d) = %d, %d, want %v", at, line, column, want)
		}
	}
	if line, column := Line(strings.Repeat("x", 100000), 99999); line != 1 || column != 100000 {
		t.Error(line, column)
	}
}

func TestLineOfAnError(t *testing.T) {
	const s = "type T struct {}; // x\n\tfunc 1"
	_, err := Tokens(s)
	var f api.Fault
	if !errors.As(err, &f) {
		t.Fatal(err)
	}
	if line, column := Line(s, f.At); line != 2 || column != 7 {
		t.Error(line, column)
	}
}

// P3.4

func TestTokensOfAJoinedText(t *testing.T) {
	check := func(s string) {
		l, err := Tokens(s)
		if err != nil {
			return
		}
		again, err := Tokens(Join(l))
		if err != nil || !Same(l, again) {
			t.Errorf("%.40q is joined to %.40q, with the tokens %.200v, %v", s, Join(l), again, err)
		}
	}
	everyString(pieces, 4, check)
	for _, s := range []string{
		"package main; type List[a Any] struct { head a; tail List[a]; }; // x\nfunc (x T[a]) m[b Any](y b) a { return x.f.(T[b]).n[a](y) };\nfunc main() { _ = T{a, b_1}}",
		strings.Repeat("a(", 1<<14), strings.Repeat("a", 1<<16), strings.Repeat("_", 1<<15), strings.Repeat("a//\n", 1<<14),
	} {
		check(s)
	}
}

func TestTokensOfAJoinedTextTooLong(t *testing.T) {
	l, err := Tokens(strings.Repeat("(", 1<<15+1))
	if err != nil {
		t.Fatal(err)
	}
	checkTokens(t, Join(l), nil, 1<<16) // the spaces make it one byte too long
}

// Rule 8: the functions may be called concurrently.

func TestConcurrentCalls(t *testing.T) {
	const s = "type T struct {}; // x"
	shared, _ := Tokens(s)
	var all sync.WaitGroup
	for range 8 {
		all.Go(func() {
			for range 1000 {
				l, err := Tokens(s)
				if err != nil || !Same(l, shared) || Join(shared) != "type T struct { } ;" {
					t.Error("a concurrent call went wrong")
					return
				}
			}
		})
	}
	all.Wait()
}

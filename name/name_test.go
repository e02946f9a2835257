package name

import (
	"math"
	"strconv"
	"strings"
	"sync"
	"testing"
)

const (
	letters  = "ABCDEFGHIJKLMNOPQRSTUVWXYZabcdefghijklmnopqrstuvwxyz"
	decimals = "0123456789"
)

var reservedWords = []string{"package", "main", "type", "struct", "interface", "func", "return"}

// wantClass is the class of a byte by the lists of the chapter.
func wantClass(c byte) int {
	for class, list := range []string{1: letters, 2: decimals, 3: "_", 4: "\x09\x0a\x0d\x20"} {
		if strings.IndexByte(list, c) >= 0 {
			return class
		}
	}
	return 0
}

// wantName reports whether s has the form of a name, reserved words included.
func wantName(s string) bool {
	for i := 0; i < len(s); i++ {
		class := wantClass(s[i])
		if class != 1 && (i == 0 || class != 2 && class != 3) {
			return false
		}
	}
	return s != ""
}

// P1.1

func TestClassOfEveryByte(t *testing.T) {
	for c := range 256 {
		if got, want := Class(byte(c)), wantClass(byte(c)); got != want {
			t.Errorf("Class(%d) = %d, want %d", c, got, want)
		}
	}
}

func TestClassAtTheEdges(t *testing.T) {
	for c, want := range map[byte]int{
		'A': 1, 'Z': 1, 'a': 1, 'z': 1, '@': 0, '[': 0, '`': 0, '{': 0,
		'0': 2, '9': 2, '/': 0, ':': 0,
		'_': 3, '^': 0, '-': 0,
		9: 4, 10: 4, 13: 4, 32: 4, 8: 0, 11: 0, 12: 0, 14: 0, 31: 0, 33: 0,
		0: 0, '$': 0, 127: 0, 128: 0, 133: 0, 160: 0, 170: 0, 0xe9: 0, 255: 0,
	} {
		if got := Class(c); got != want {
			t.Errorf("Class(%d) = %d, want %d", c, got, want)
		}
	}
}

// P1.2

func TestIs(t *testing.T) {
	for s, want := range map[string]bool{
		"a": true, "Z": true, "a_1": true, "a1": true, "a_": true, "Abc_9z": true, "x__0": true,
		"var": true, "if": true, "any": true, "go": true, "import": true,
		"": false, "_": false, "_a": false, "1": false, "1a": false, "a b": false, " a": false, "a ": false, "a\n": false,
		"a-b": false, "a.b": false, "a$": false, "$0": false, "$": false, "a\x00": false, "\x00": false, "a[b]": false,
	} {
		if got := Is(s); got != want {
			t.Errorf("Is(%q) = %t, want %t", s, got, want)
		}
	}
}

func TestIsBeyondASCII(t *testing.T) {
	for _, s := range []string{
		"é", "aé", "éa", "aéb",
		"a\x80", "\x80", "a\xff", "a\xffb", "a\xc3", "\xe9a", "a\ufffd", "a\ufffdb",
		"a\u0161", "a\u0161b", "\u0161", "\u0141", "a\u0130", "a\u015f", "a\u0141", // their low bytes are those of a, A, 0, _ and A
		"a\u0661", "aª", "a\U0001d41a", "a\U00010061",
	} {
		if Is(s) {
			t.Errorf("Is(%q) = true", s)
		}
	}
}

func TestIsOfEveryShortString(t *testing.T) {
	for a := range 256 {
		for b := range 256 {
			for _, s := range []string{string([]byte{byte(a)}), string([]byte{byte(a), byte(b)}), string([]byte{byte(a), byte(b), 'x'})} {
				if got, want := Is(s), wantName(s); got != want {
					t.Fatalf("Is(%q) = %t, want %t", s, got, want)
				}
			}
		}
	}
}

func TestIsOfALongString(t *testing.T) {
	long := strings.Repeat("a_1", 1<<15)
	if !Is(long) || Is(long+"-") || Is(long+"-"+long) || Is("_"+long) || Is(long+"\x80") {
		t.Error("a long name is found wrong")
	}
}

func TestReserved(t *testing.T) {
	for _, s := range reservedWords {
		if !Reserved(s) || Is(s) {
			t.Errorf("%q: Reserved %t, Is %t", s, Reserved(s), Is(s))
		}
	}
}

func TestReservedOnlyAsAWhole(t *testing.T) {
	for _, s := range reservedWords {
		for _, near := range []string{s + "s", s + "_", s + "0", "x" + s, s + s, strings.ToUpper(s), strings.ToUpper(s[:1]) + s[1:], s[:len(s)-1], s[1:]} {
			if Reserved(near) || !Is(near) {
				t.Errorf("%q: Reserved %t, Is %t", near, Reserved(near), Is(near))
			}
		}
		for _, wrong := range []string{" " + s, s + " ", s + "\n", s + "\x00", "$" + s} {
			if Reserved(wrong) || Is(wrong) {
				t.Errorf("%q: Reserved %t, Is %t", wrong, Reserved(wrong), Is(wrong))
			}
		}
	}
	for _, s := range []string{"", "$0", "a", "var", "any", "map", "const", "import", "package main", "é", "\x80"} {
		if Reserved(s) {
			t.Errorf("Reserved(%q) = true", s)
		}
	}
}

// P1.3

func TestLocal(t *testing.T) {
	for i, want := range map[int]string{
		0: "$0", 1: "$1", 9: "$9", 10: "$10", 12: "$12", 100: "$100", 65536: "$65536",
		1<<31 - 1: "$2147483647",
		-1:        "", -10: "", math.MinInt: "",
	} {
		if got := Local(i); got != want {
			t.Errorf("Local(%d) = %q, want %q", i, got, want)
		}
	}
}

func TestLocalOfTheGreatestInt(t *testing.T) {
	if got, want := Local(math.MaxInt), "$"+strconv.Itoa(math.MaxInt); got != want {
		t.Errorf("Local(%d) = %q, want %q", math.MaxInt, got, want)
	}
}

func TestIndex(t *testing.T) {
	for s, want := range map[string]int{"$0": 0, "$1": 1, "$9": 9, "$10": 10, "$12": 12, "$100": 100, "$2147483646": 1<<31 - 2, "$2147483647": 1<<31 - 1} {
		if got, ok := Index(s); got != want || !ok {
			t.Errorf("Index(%q) = %d, %t, want %d", s, got, ok, want)
		}
	}
}

func TestIndexOfNoLocalName(t *testing.T) {
	for _, s := range []string{
		"", "$", "0", "12", "a", "main", "$a", "$$", "$$0", "0$", "$0$", "$1a", "$a1", "a$1", " $1", "$ 1", "$1 ", "$1\n",
		"$00", "$01", "$000", "$+0", "$+1", "$-0", "$-1", "$1_0", "$0x1", "$1.0", "$1e1", "$\x00", "$1\x00", "$\u0661", "$1\x80", "\u20ac1",
		"$2147483648", "$2147483650", "$4294967296", "$4294967297", "$9223372036854775807", "$9223372036854775808", "$18446744073709551616", "$18446744073709551617",
		"$" + strings.Repeat("9", 100000), "$" + strings.Repeat("0", 100000), "$" + strings.Repeat("0", 100) + "1", strings.Repeat("$", 1000),
	} {
		if i, ok := Index(s); i != 0 || ok {
			t.Errorf("Index(%.40q) = %d, %t", s, i, ok)
		}
	}
}

// P1.4

func TestCompare(t *testing.T) {
	rising := []string{"", "\x00", "\x00\x00", "\n", " ", "$0", "$1", "$10", "$2", "0", "A", "Z", "_", "a", "a\x00", "aZ", "a_1", "aa", "ab", "abc", "b", "ba", "z", "\x7f", "\x80", "\xc3\xa9", "\xff", "\xff\x00", "\xff\xff"}
	for i, a := range rising {
		for j, b := range rising {
			want := 0
			if i < j {
				want = -1
			} else if i > j {
				want = 1
			}
			if got := Compare(a, b); got != want {
				t.Errorf("Compare(%q, %q) = %d, want %d", a, b, got, want)
			}
		}
	}
}

func TestCompareOfLongStrings(t *testing.T) {
	long := strings.Repeat("a", 1<<16)
	if Compare(long, strings.Repeat("a", 1<<16)) != 0 || Compare(long, long+"a") != -1 || Compare(long+"b", long+"a") != 1 || Compare(long, "b") != -1 {
		t.Error("long strings are compared wrong")
	}
}

// P1.5

func TestIndexInvertsLocal(t *testing.T) {
	check := func(i int) {
		s := Local(i)
		if got, ok := Index(s); got != i || !ok {
			t.Fatalf("Index(%q) = %d, %t, want %d", s, got, ok, i)
		}
		if Is(s) || Reserved(s) {
			t.Fatalf("the local name %q is a name or reserved", s)
		}
	}
	for i := range 100000 {
		check(i)
	}
	for power := 1; power <= 1<<30; power *= 2 {
		check(power - 1)
		check(power)
		check(power + (power - 1))
	}
}

func TestLocalInvertsIndex(t *testing.T) {
	for _, s := range []string{"", "$", "$0", "$00", "$7", "$07", "$+7", "$2147483647", "$2147483648", "a", "a1", "type"} {
		if i, ok := Index(s); ok && (Local(i) != s || Is(s)) {
			t.Errorf("Index(%q) = %d, true; Local(%d) = %q; Is %t", s, i, i, Local(i), Is(s))
		}
	}
}

func TestNoNameIsALocalName(t *testing.T) {
	for _, s := range []string{"a", "a_1", "Z9_", "x0", "l1"} {
		if _, ok := Index(s); ok || !Is(s) {
			t.Errorf("%q: Index %t, Is %t", s, ok, Is(s))
		}
	}
}

// Rule 8: the functions may be called concurrently.

func TestConcurrentCalls(t *testing.T) {
	var all sync.WaitGroup
	for range 8 {
		all.Go(func() {
			for i := range 1000 {
				if j, ok := Index(Local(i)); j != i || !ok || !Is("a_1") || !Reserved("type") {
					t.Error("a concurrent call went wrong")
					return
				}
			}
		})
	}
	all.Wait()
}

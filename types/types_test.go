package types

import (
	"iter"
	"math"
	"slices"
	"strconv"
	"strings"
	"sync"
	"testing"

	"castings/api"
)

// most is the greatest number of parts, and the greatest depth, of a type.
const most = 1 << 16

// of returns a type.
func of(name string, args ...api.Type) api.Type {
	return api.Type{Name: name, Args: args}
}

// at returns t with another At.
func at(at int, t api.Type) api.Type {
	t.At = at
	return t
}

// list returns types without Args.
func list(names ...string) []api.Type {
	var l []api.Type
	for _, s := range names {
		l = append(l, of(s))
	}
	return l
}

// spine returns a type of the depth: a in L in L and so on.
func spine(depth int, a api.Type) api.Type {
	for range depth - 1 {
		a = of("L", a)
	}
	return a
}

// everyType returns all types of at most the size whose Names are of names.
func everyType(names []string, size int) []api.Type {
	var l []api.Type
	for _, s := range names {
		for _, args := range everyList(names, size-1) {
			l = append(l, api.Type{Name: s, Args: args})
		}
	}
	return l
}

// everyList returns all lists of types that together have at most the size.
func everyList(names []string, size int) [][]api.Type {
	l := [][]api.Type{nil}
	if size <= 0 {
		return l
	}
	for _, t := range everyType(names, size) {
		for _, rest := range everyList(names, size-parts(t)) {
			l = append(l, append([]api.Type{t}, rest...))
		}
	}
	return l
}

// parts counts the types that t consists of.
func parts(t api.Type) int {
	count := 0
	walk(&t, func(*api.Type) { count++ })
	return count
}

// walk calls do with each type in t, from left to right.
func walk(t *api.Type, do func(t *api.Type)) {
	do(t)
	for i := range t.Args {
		walk(&t.Args[i], do)
	}
}

// numbered returns a new type that is the same as t, with the offsets from
// first on, from left to right.
func numbered(t api.Type, first int) api.Type {
	t = rebuilt(t)
	walk(&t, func(t *api.Type) {
		t.At = first
		first++
	})
	return t
}

// rebuilt returns a copy of t in new memory, made without the package.
func rebuilt(t api.Type) api.Type {
	var l []api.Type
	for _, arg := range t.Args {
		l = append(l, rebuilt(arg))
	}
	return api.Type{Name: t.Name, Args: l, At: t.At}
}

// shown returns the Names and offsets of all types in t, and where they stand.
func shown(t api.Type) string {
	s := strconv.Quote(t.Name) + "@" + strconv.Itoa(t.At) + "("
	for _, arg := range t.Args {
		s += shown(arg)
	}
	return s + ")"
}

// shownList is shown for the types of a list.
func shownList(l []api.Type) string {
	return shown(api.Type{Args: l})
}

// roomy returns a copy of t in which each Args has unused capacity, filled with
// types that can be recognised.
func roomy(t api.Type) api.Type {
	l := make([]api.Type, 0, len(t.Args)+2)
	for _, arg := range t.Args {
		l = append(l, roomy(arg))
	}
	rest := l[len(l):cap(l)]
	for i := range rest {
		rest[i] = of("unused")
	}
	return api.Type{Name: t.Name, Args: l, At: t.At}
}

// shownRoom is shown for roomy types, with what stands in the unused capacity.
func shownRoom(t api.Type) string {
	s := strconv.Quote(t.Name) + "@" + strconv.Itoa(t.At) + "("
	for i, arg := range t.Args[:cap(t.Args)] {
		if i == len(t.Args) {
			s += "|"
		}
		s += shownRoom(arg)
	}
	return s + ")"
}

// checkFresh checks that no two Args in the types of l share memory, unused
// capacity included: each is written over, and then read again.
func checkFresh(t *testing.T, l []api.Type) {
	t.Helper()
	count := 0
	everyCell(l, func(cell *api.Type) {
		cell.At = count
		count++
	})
	next := 0
	everyCell(l, func(cell *api.Type) {
		if cell.At != next {
			t.Errorf("type %d shares memory with type %d", next, cell.At)
		}
		next++
	})
}

// everyCell calls do with each type in l and in the unused capacity of its Args.
func everyCell(l []api.Type, do func(cell *api.Type)) {
	l = l[:cap(l)]
	for i := range l {
		do(&l[i])
		everyCell(l[i].Args, do)
	}
}

// P4.1

// samples are types of which no two are the same.
var samples = []api.Type{
	of(""), of("A"), of("B"), of("AB"), of("a"), of("A[B]"), of("A, B"), of("$0"), of("\xff"), of("\ufffd"),
	of("", of("")), of("A", of("")), of("", of("A")),
	of("A", of("A")), of("A", of("B")), of("B", of("A")), of("A", of("A, B")),
	of("A", of("A"), of("B")), of("A", of("B"), of("A")), of("A", of("A"), of("B"), of("B")),
	of("A", of("A", of("B"))), of("A", of("A", of("B")), of("B")), of("A", of("A", of("B"), of("B"))), of("A", of("A"), of("B", of("B"))),
}

func TestSame(t *testing.T) {
	for i, a := range samples {
		for k, b := range samples {
			if got := Same(a, rebuilt(b)); got != (i == k) {
				t.Errorf("Same(%s, %s) = %t", shown(a), shown(b), got)
			}
		}
	}
}

func TestSameWhateverTheOffsets(t *testing.T) {
	for i, a := range samples {
		for k, b := range samples {
			if got := Same(numbered(a, -3), numbered(b, math.MaxInt-9)); got != (i == k) {
				t.Errorf("Same(%s, %s) = %t with other offsets", shown(a), shown(b), got)
			}
		}
	}
}

func TestNilAndEmptyArgsAreTheSame(t *testing.T) {
	none, empty := of("A"), api.Type{Name: "A", Args: []api.Type{}}
	if !Same(none, empty) || !Same(empty, none) || !Same(of("B", none), of("B", empty)) {
		t.Error("they are not the same")
	}
	if Compare(none, empty) != 0 || Compare(empty, none) != 0 || Compare(empty, of("A", of("A"))) != -1 || Compare(of("A", empty), of("A", none)) != 0 {
		t.Error("they are ordered wrong")
	}
	if Text(empty) != "A" || Depth(empty) != 1 || Size(empty) != 1 || !Right(empty) || Text(of("B", empty)) != "B[A]" || Depth(of("B", empty)) != 2 {
		t.Error("empty Args count")
	}
}

func TestCompare(t *testing.T) {
	sorted := []api.Type{
		of(""),
		of("", of("")),
		of("$0"),
		of("A"),
		of("A", of("")),
		of("A", of("A")),
		of("A", of("A"), of("A")),
		of("A", of("A"), of("A"), of("A")),
		of("A", of("A"), of("A", of("A"))),
		of("A", of("A"), of("B")),
		of("A", of("A", of("A"))),
		of("A", of("A", of("A")), of("A")),
		of("A", of("A", of("A"), of("A"))),
		of("A", of("A", of("B"))),
		of("A", of("B")),
		of("A", of("B"), of("A")),
		of("A, B"), // a Name may have any bytes
		of("A0"),
		of("AA"),
		of("A[A]"),
		of("B"),
		of("B", of("A")),
		of("Ba"),
		of("Z", of("a")),
		of("a"),
		of("a_"),
		of("aa"),
		of("\xc3"),
		of("\u00e9"),
		of("\xff"),
	}
	for i, a := range sorted {
		for k, b := range sorted {
			want := 0
			if i < k {
				want = -1
			} else if i > k {
				want = 1
			}
			if got := Compare(numbered(a, 7), numbered(b, -k)); got != want {
				t.Errorf("Compare(%s, %s) = %d, want %d", shown(a), shown(b), got, want)
			}
		}
	}
}

func TestCompareOfEveryTwoSmallTypes(t *testing.T) {
	l := everyType([]string{"A", "b"}, 4)
	slices.SortFunc(l, Compare)
	for i, a := range l {
		for k, b := range l {
			got := Compare(a, b)
			if got != sign(i-k) || got != -Compare(b, a) || (got == 0) != Same(a, b) || Same(a, b) != Same(b, a) {
				t.Fatalf("Compare(%s, %s) = %d", shown(a), shown(b), got)
			}
		}
	}
}

// sign returns -1, 0 or 1.
func sign(i int) int {
	return min(max(i, -1), 1)
}

func TestTextDepthAndSize(t *testing.T) {
	for _, want := range []struct {
		t           api.Type
		text        string
		depth, size int
	}{
		{of("a"), "a", 1, 1},
		{of("a_1"), "a_1", 1, 1},
		{of("List", of("b")), "List[b]", 2, 2},
		{of("Map", of("a"), of("List", of("b"))), "Map[a, List[b]]", 3, 4},
		{of("Map", of("List", of("b")), of("a")), "Map[List[b], a]", 3, 4},
		{of("A", of("A"), of("A"), of("A")), "A[A, A, A]", 2, 4},
		{of("A", of("B", of("C", of("D"))), of("E", of("F")), of("G")), "A[B[C[D]], E[F], G]", 4, 7},
		{of("A", of("B"), of("C", of("D", of("E"), of("F")), of("G"))), "A[B, C[D[E, F], G]]", 4, 7},
		// types that are not right
		{api.Type{}, "", 1, 1},
		{of("", of(""), of("")), "[, ]", 2, 3},
		{of("type", of("$0")), "type[$0]", 2, 2},
		{of("A[B", of("\xff\x00")), "A[B[\xff\x00]", 2, 2},
	} {
		for _, x := range []api.Type{want.t, numbered(want.t, -1), roomy(want.t)} {
			if Text(x) != want.text || Depth(x) != want.depth || Size(x) != want.size {
				t.Errorf("%s has the text %q, the depth %d and the size %d", shown(x), Text(x), Depth(x), Size(x))
			}
		}
	}
}

func TestRight(t *testing.T) {
	for _, x := range []api.Type{of("a"), of("Z9_"), of("Map", of("a"), of("List", of("b"))), of("A", of("A")), at(-1, of("A")), of("typeof")} {
		if !Right(x) {
			t.Errorf("%s is not right", shown(x))
		}
	}
	for _, s := range []string{
		"", " ", "type", "struct", "interface", "func", "return", "package", "main", "1", "_", "_a", "$0", "a b", "a.b", "A[B]", "[", "a,", "\xe9", "é", "a\x00", "a\n",
	} {
		for _, x := range []api.Type{
			of(s), of(s, of("A")), of("A", of(s)), of("A", of("A"), of(s)), of("A", of(s), of("A")), of("A", of("B", of(s)), of("A")), of("A", of("B"), of("C", of("D"), of(s))),
		} {
			if Right(x) {
				t.Errorf("%s is right", shown(x))
			}
		}
	}
}

func TestTheGreatestTypes(t *testing.T) {
	wide := api.Type{Name: "W", Args: slices.Repeat(list("a"), most-1)}
	deep := spine(most, of("a"))
	if Size(wide) != most || Depth(wide) != 2 || !Right(wide) || Text(wide) != "W[a"+strings.Repeat(", a", most-2)+"]" {
		t.Error("a wide type is taken wrong")
	}
	if Size(deep) != most || Depth(deep) != most || !Right(deep) || Text(deep) != strings.Repeat("L[", most-1)+"a"+strings.Repeat("]", most-1) {
		t.Error("a deep type is taken wrong")
	}
	for _, x := range []api.Type{wide, deep} {
		if !Same(x, Clone(x)) || Compare(x, Clone(x)) != 0 || Same(wide, deep) || Compare(wide, deep) != 1 || Compare(deep, wide) != -1 {
			t.Error("great types are compared wrong")
		}
	}
	less := api.Type{Name: "W", Args: wide.Args[:most-2]}
	if Compare(less, wide) != -1 || Compare(wide, less) != 1 || Compare(spine(most, of("b")), deep) != 1 || Compare(spine(most-1, of("a")), deep) != 1 {
		t.Error("the last difference is not seen")
	}
	if Right(spine(most, of("$0"))) {
		t.Error("the last name is not seen")
	}
}

// P4.2

func TestSubst(t *testing.T) {
	x := of("Map", of("a"), of("List", of("b")))
	for _, want := range []struct {
		t     api.Type
		names []string
		args  []api.Type
		text  string
	}{
		{of("a"), []string{"a"}, []api.Type{x}, "Map[a, List[b]]"},
		{of("a"), []string{"b"}, []api.Type{x}, "a"},
		{of("a"), []string{"b", "a"}, list("B", "A"), "A"},
		{x, []string{"a", "b"}, list("A", "B"), "Map[A, List[B]]"},
		{x, []string{"b", "a"}, list("A", "B"), "Map[B, List[A]]"},
		{of("F", of("a"), of("a"), of("G", of("a"))), []string{"a"}, []api.Type{of("H", of("b"))}, "F[H[b], H[b], G[H[b]]]"},
		// all at once: what comes in is not substituted again
		{of("F", of("a"), of("b")), []string{"a", "b"}, list("b", "a"), "F[b, a]"},
		{of("F", of("a"), of("b"), of("c")), []string{"a", "b", "c"}, []api.Type{of("G", of("b")), of("H", of("c"), of("a")), of("c")}, "F[G[b], H[c, a], c]"},
		{of("a"), []string{"a"}, []api.Type{of("L", of("a"))}, "L[a]"},
		// a type with Args is not replaced, but those may be
		{of("a", of("b")), []string{"a"}, list("A"), "a[b]"},
		{of("a", of("a")), []string{"a"}, list("A"), "a[A]"},
		{of("F", of("a", of("a", of("a")))), []string{"a"}, []api.Type{of("B", of("C"))}, "F[a[a[B[C]]]]"},
		{of("List"), []string{"List"}, list("A"), "A"},
		// the first such name counts
		{of("F", of("a"), of("b")), []string{"a", "a", "b", "a", "b"}, list("A", "B", "C", "D", "E"), "F[A, C]"},
		// names without a type, and types without a name
		{of("F", of("a"), of("b")), []string{"a", "b"}, list("A"), "F[A, b]"},
		{of("F", of("a"), of("b")), []string{"c", "a", "b"}, list("A"), "F[a, b]"},
		{of("F", of("a"), of("b")), []string{"a", "b", "a", "b"}, list("A"), "F[A, b]"},
		{of("F", of("a"), of("b")), []string{"a", "b"}, nil, "F[a, b]"},
		{of("F", of("a"), of("b")), nil, list("A", "B"), "F[a, b]"},
		{of("F", of("a"), of("b")), []string{"b"}, list("A", "B", "C"), "F[a, A]"},
		// any strings are names here
		{of("F", of(""), of("$0"), of("type"), of("\xff"), of("A[b]")), []string{"", "$0", "type", "\xff", "A[b]"}, list("1", "2", "3", "4", "5"), "F[1, 2, 3, 4, 5]"},
		{of("F", of("A", of("b")), of("a "), of("A")), []string{"A[b]", "a"}, list("1", "2"), "F[A[b], a , A]"},
		{api.Type{}, []string{""}, list("A"), "A"},
		{api.Type{}, nil, nil, ""},
		{of("a"), []string{"a"}, []api.Type{{}}, ""},
		{api.Type{Name: "a", Args: []api.Type{}}, []string{"a"}, list("A"), "A"},
	} {
		got := Subst(want.t, want.names, want.args)
		if Text(got) != want.text {
			t.Errorf("Subst(%s, %q, %s) = %s, want %s", Text(want.t), want.names, Text(of("", want.args...)), Text(got), want.text)
		}
	}
}

func TestOffsetsOfWhatIsSubstituted(t *testing.T) {
	x := at(1, of("F", at(2, of("a")), at(3, of("G", at(4, of("b")), at(5, of("c")))), at(6, of("b"))))
	args := []api.Type{at(20, of("A")), at(30, of("B", at(31, of("C")), at(32, of("a"))))}
	want := at(1, of("F", at(2, of("A")), at(3, of("G", at(4, of("B", at(31, of("C")), at(32, of("a")))), at(5, of("c")))), at(6, of("B", at(31, of("C")), at(32, of("a"))))))
	if got := Subst(x, []string{"a", "b"}, args); shown(got) != shown(want) {
		t.Errorf("got %s, want %s", shown(got), shown(want))
	}
	if got := Subst(at(-9, of("b")), []string{"b"}, args); shown(got) != shown(at(-9, of("A"))) {
		t.Error(shown(got))
	}
	if got := All([]api.Type{at(8, of("b")), at(9, of("c"))}, []string{"b"}, args); shownList(got) != shownList([]api.Type{at(8, of("A")), at(9, of("c"))}) {
		t.Error(shownList(got))
	}
}

// wantSubst substitutes by the words of the chapter.
func wantSubst(t api.Type, names []string, args []api.Type) api.Type {
	if i := slices.Index(names, t.Name); i >= 0 && i < len(args) && len(t.Args) == 0 {
		return at(t.At, rebuilt(args[i]))
	}
	var l []api.Type
	for _, arg := range t.Args {
		l = append(l, wantSubst(arg, names, args))
	}
	return api.Type{Name: t.Name, Args: l, At: t.At}
}

func TestSubstOfEverySmallType(t *testing.T) {
	names := [][]string{nil, {"a"}, {"b"}, {"a", "b"}, {"b", "a"}, {"a", "a"}, {"b", "b", "a"}, {"c", "a"}}
	args := [][]api.Type{nil, {of("A")}, {of("b"), of("a")}, {of("a", of("b")), of("B")}, {of("b"), of("c", of("a")), of("C")}}
	for _, x := range everyType([]string{"a", "b"}, 4) {
		x = numbered(x, 100)
		for _, n := range names {
			for _, l := range args {
				got, want := Subst(x, n, l), wantSubst(x, n, l)
				if shown(got) != shown(want) {
					t.Fatalf("Subst(%s, %q, %s) = %s, want %s", shown(x), n, shownList(l), shown(got), shown(want))
				}
			}
		}
	}
}

func TestAll(t *testing.T) {
	x := numbered(of("Map", of("a"), of("List", of("b"))), 50)
	for _, want := range []struct {
		l     []api.Type
		names []string
		args  []api.Type
		text  string
	}{
		{list("a", "x"), []string{"a"}, []api.Type{x}, "[Map[a, List[b]], x]"},
		{[]api.Type{x, x, of("b")}, []string{"a", "b"}, list("b", "A"), "[Map[b, List[A]], Map[b, List[A]], A]"},
		{list("a", "a", "b"), []string{"b", "a", "a"}, list("1", "2", "3"), "[2, 2, 1]"},
		{list("a", "b"), []string{"a", "b"}, list("A"), "[A, b]"},
		{list("a"), nil, nil, "[a]"},
		{list("a"), nil, list("A"), "[a]"},
		{list("a"), []string{"a"}, nil, "[a]"},
		{nil, []string{"a"}, list("A"), ""},
		{[]api.Type{}, []string{"a"}, list("A"), ""},
		{nil, nil, nil, ""},
	} {
		got := All(want.l, want.names, want.args)
		if len(got) != len(want.l) || Text(of("", got...)) != want.text {
			t.Errorf("All(%s, %q, %s) = %s, want %s", shownList(want.l), want.names, shownList(want.args), Text(of("", got...)), want.text)
		}
		for i, x := range want.l {
			if one := Subst(x, want.names, want.args); shown(got[i]) != shown(one) {
				t.Errorf("All gives %s, Subst %s", shown(got[i]), shown(one))
			}
		}
	}
}

func TestSubstitutingSharesNoMemory(t *testing.T) {
	args := []api.Type{roomy(of("A", of("B"), of("C", of("a")))), roomy(of("b"))}
	x := roomy(of("F", of("a"), of("b"), of("G", of("a"), of("a"), of("c", of("d")))))
	l := []api.Type{x, args[0], x, of("a"), of("a")}
	names := []string{"a", "b", "x"}
	before := shownRoom(of("", of("", args...), of("", l...)))
	wantOne, wantAll := wantSubst(x, names[:2], args), of("", wantSubst(l[0], names[:2], args), wantSubst(l[1], names[:2], args), wantSubst(l[2], names[:2], args), wantSubst(l[3], names[:2], args), wantSubst(l[4], names[:2], args))
	one, all := Subst(x, names[:2], args), All(l, names[:2], args)
	if shown(one) != shown(wantOne) || shownList(all) != shown(wantAll) {
		t.Error("what is given has been changed too early, or is substituted wrong")
	}
	checkFresh(t, append([]api.Type{one}, all...))
	if after := shownRoom(of("", of("", args...), of("", l...))); after != before || !slices.Equal(names, []string{"a", "b", "x"}) {
		t.Errorf("what is given was %s and is %s", before, after)
	}
	one, all = Subst(x, names[:2], args), All(l, names[:2], args)
	everyCell([]api.Type{x}, func(cell *api.Type) { *cell = of("changed", cell.Args...) })
	everyCell(args, func(cell *api.Type) { *cell = of("changed", cell.Args...) })
	clear(l)
	if shown(one) != shown(wantOne) || shownList(all) != shown(wantAll) {
		t.Error("a change of what is given changes what was returned")
	}
}

func TestNoMemoryIsSharedWithAListOfTheSameTypes(t *testing.T) {
	x := of("F", of("a"))
	l := []api.Type{x, x} // two types with one Args
	checkFresh(t, All(l, []string{"b"}, list("B")))
	checkFresh(t, All(list("a", "a", "a"), []string{"a"}, []api.Type{x}))
	checkFresh(t, Subst(of("G", l...), []string{"a"}, []api.Type{x}).Args)
	checkFresh(t, Clone(of("G", l...)).Args)
}

func TestSubstOfTheGreatestTypes(t *testing.T) {
	var names []string
	var args []api.Type
	for i := range most - 1 {
		names = append(names, "n"+strconv.Itoa(i))
		args = append(args, of("t"+strconv.Itoa(i)))
	}
	wide := api.Type{Name: "W", Args: list(names...)}
	if got := Subst(wide, names, args); !Same(got, api.Type{Name: "W", Args: args}) {
		t.Error("many names are substituted wrong")
	}
	if got := All(wide.Args, names, args[:2]); len(got) != most-1 || got[1].Name != "t1" || got[2].Name != "n2" || got[most-2].Name != "n65534" {
		t.Error("many names are substituted wrong in a list")
	}
	if got := Subst(spine(most, of("a")), []string{"a"}, []api.Type{of("b")}); !Same(got, spine(most, of("b"))) {
		t.Error("a deep type is substituted wrong")
	}
	if got := Subst(spine(most/2, of("a")), []string{"a"}, []api.Type{spine(most/2, of("b"))}); !Same(got, spine(most-1, of("b"))) {
		t.Error("a deep type is substituted wrong in another one")
	}
}

// P4.3

func TestClone(t *testing.T) {
	for _, x := range append(everyType([]string{"a", "b"}, 4), samples...) {
		for _, y := range []api.Type{x, numbered(x, 3), numbered(x, -2), numbered(x, math.MaxInt-5)} {
			if got := Clone(y); shown(got) != shown(y) || !Same(got, y) {
				t.Errorf("Clone(%s) = %s", shown(y), shown(got))
			}
		}
	}
}

func TestCloneSharesNoMemory(t *testing.T) {
	x := roomy(of("Map", of("a"), of("List", of("b"), of("c"))))
	want, before := shown(x), shownRoom(x)
	got := Clone(x)
	checkFresh(t, []api.Type{got})
	if shownRoom(x) != before {
		t.Error("a change of the clone changes what was cloned")
	}
	got = Clone(x)
	everyCell([]api.Type{x}, func(cell *api.Type) { *cell = of("changed", cell.Args...) })
	if shown(got) != want {
		t.Error("a change of what was cloned changes the clone")
	}
}

func TestNames(t *testing.T) {
	for _, want := range []struct {
		t     api.Type
		names []string
	}{
		{of("a"), []string{"a"}},
		{api.Type{}, []string{""}},
		{of("Map", of("a"), of("List", of("b"))), []string{"Map", "a", "List", "b"}},
		{of("Map", of("List", of("b")), of("a")), []string{"Map", "List", "b", "a"}},
		{of("A", of("A"), of("A", of("A"))), []string{"A", "A", "A", "A"}},
		{of("A", of("B", of("C", of("D"), of("E")), of("F")), of("G", of("H"))), []string{"A", "B", "C", "D", "E", "F", "G", "H"}},
		{of("type", of(""), of("\xff", of("$0"))), []string{"type", "", "\xff", "$0"}},
		{roomy(of("A", of("B"))), []string{"A", "B"}},
	} {
		if got := slices.Collect(Names(want.t)); !slices.Equal(got, want.names) {
			t.Errorf("Names(%s) = %q", shown(want.t), got)
		}
	}
}

func TestNamesMayBeStopped(t *testing.T) {
	all := Names(of("A", of("B", of("C"), of("D", of("E"))), of("F", of("G"))))
	want := []string{"A", "B", "C", "D", "E", "F", "G"}
	for n := 1; n <= len(want); n++ {
		var got []string
		all(func(s string) bool {
			got = append(got, s)
			return len(got) < n
		})
		if !slices.Equal(got, want[:n]) {
			t.Errorf("stopped at the name %d, the iterator yields %q", n, got)
		}
	}
	for s := range all {
		if s == "D" {
			break
		}
	}
	if got := slices.Collect(all); !slices.Equal(got, want) { // each loop begins anew
		t.Error(got)
	}
}

func TestNamesInTwoLoopsAtOnce(t *testing.T) {
	all := Names(of("A", of("B"), of("C")))
	next, stop := iter.Pull(all)
	defer stop()
	for want := range all {
		if got, _ := next(); got != want {
			t.Error(got, want)
		}
	}
	if _, more := next(); more {
		t.Error("there is a name too many")
	}
}

func TestNamesOfATypeThatIsChanged(t *testing.T) {
	x := roomy(of("A", of("B", of("C")), of("D")))
	before := shownRoom(x)
	all := Names(x)
	for range all {
	}
	if shownRoom(x) != before {
		t.Error("the type is changed")
	}
	everyCell([]api.Type{x}, func(cell *api.Type) { *cell = of("changed", cell.Args...) })
	if got := slices.Collect(all); !slices.Equal(got, []string{"A", "B", "C", "D"}) {
		t.Error("the iterator keeps the type:", got)
	}
}

func TestNamesOfTheGreatestTypes(t *testing.T) {
	count := 0
	for s := range Names(spine(most, of("a"))) {
		count++
		if (s == "a") != (count == most) {
			t.Fatal(s, count)
		}
	}
	if wide := slices.Collect(Names(api.Type{Name: "W", Args: slices.Repeat(list("a"), most-1)})); count != most || len(wide) != most || wide[0] != "W" || wide[most-1] != "a" {
		t.Error(count, len(wide))
	}
}

// P4.4

func TestRightTypesAreTheSameIfTheirTextsAre(t *testing.T) {
	l := everyType([]string{"A", "b", "AA"}, 3)
	l = append(l, everyType([]string{"A"}, 6)...)
	for i, a := range l {
		for k, b := range l {
			if !Right(a) || Same(a, numbered(b, k)) != (Text(numbered(a, i)) == Text(b)) {
				t.Fatalf("%s and %s", Text(a), Text(b))
			}
		}
	}
	if Same(of("A", of("B")), of("A[B]")) || Text(of("A", of("B"))) != Text(of("A[B]")) {
		t.Error("types that are not right may have one text")
	}
}

func TestSubstitutingNothingIsCloning(t *testing.T) {
	for _, x := range append(everyType([]string{"a", "b"}, 4), samples...) {
		x = numbered(x, 9)
		want := shown(Clone(x))
		for _, got := range []api.Type{
			Subst(x, nil, nil), Subst(x, []string{}, []api.Type{}), Subst(x, nil, list("A")), Subst(x, []string{"a"}, nil),
			Subst(x, []string{"x"}, list("A")), All([]api.Type{x}, nil, nil)[0], All([]api.Type{x}, []string{"a", "b"}, nil)[0],
		} {
			if shown(got) != want {
				t.Errorf("%s is not cloned, but %s", want, shown(got))
			}
		}
	}
}

func TestTheOthersLeaveATypeAsItIs(t *testing.T) {
	x := roomy(numbered(of("Map", of("a"), of("List", of("b"), of("c"))), 1))
	before := shownRoom(x)
	Same(x, x)
	Compare(x, of("Map", of("a")))
	Text(x)
	Depth(x)
	Size(x)
	Right(x)
	if shownRoom(x) != before {
		t.Error(shownRoom(x))
	}
}

func TestConcurrentCalls(t *testing.T) {
	x := of("Map", of("a"), of("List", of("b")))
	names, args := []string{"a", "b"}, []api.Type{x, of("B")}
	var all sync.WaitGroup
	for range 8 {
		all.Go(func() {
			for range 1000 {
				y := Subst(x, names, args)
				if Text(y) != "Map[Map[a, List[b]], List[B]]" || !Same(Clone(x), All(args, nil, nil)[0]) || Compare(x, y) != 1 || Depth(y) != 4 || Size(y) != 7 || !Right(y) {
					t.Error("a concurrent call went wrong")
					return
				}
			}
		})
	}
	all.Wait()
}

package bind

import (
	"math"
	"reflect"
	"slices"
	"strconv"
	"strings"
	"sync"
	"testing"

	"castings/api"
	"castings/decl"
	"castings/name"
	"castings/parse"
	"castings/print"
	"castings/types"
)

// many is more than the number of formals or parameters in a text.
const many = 1 << 16

// of returns a type.
func of(name string, args ...api.Type) api.Type {
	return api.Type{Name: name, Args: args}
}

// list returns types without Args.
func list(names ...string) []api.Type {
	var l []api.Type
	for _, s := range names {
		l = append(l, of(s))
	}
	return l
}

func formalOf(name string, bound api.Type) api.Formal {
	return api.Formal{Name: name, Bound: bound}
}

func paramOf(name string, t api.Type) api.Param {
	return api.Param{Name: name, Type: t}
}

// sigOf returns the signature that a text is of.
func sigOf(t *testing.T, text string) api.Sig {
	t.Helper()
	d, err := parse.Decl("type I interface {" + text + ";};")
	if err != nil {
		t.Fatal(text, err)
	}
	return d.Sigs[0]
}

// formalsOf returns the formals that a text is of: a I, b J.
func formalsOf(t *testing.T, text string) []api.Formal {
	t.Helper()
	if text == "" {
		return nil
	}
	return sigOf(t, "m["+text+"]() T").Formals
}

// spine returns a type of the depth: a in L in L and so on.
func spine(depth int, a api.Type) api.Type {
	for range depth - 1 {
		a = of("L", a)
	}
	return a
}

// rebuilt returns a copy of v in new memory, made without the package, in which
// each list has some unused capacity, filled with what can be recognised. Its
// empty lists are nil, if there is none.
func rebuilt[T any](v T, room int) T {
	return rebuiltValue(reflect.ValueOf(v), room).Interface().(T)
}

func rebuiltValue(v reflect.Value, room int) reflect.Value {
	fresh := reflect.New(v.Type()).Elem()
	switch v.Kind() {
	case reflect.Struct:
		for i := range v.NumField() {
			fresh.Field(i).Set(rebuiltValue(v.Field(i), room))
		}
	case reflect.Slice:
		if v.Len()+room == 0 {
			return fresh
		}
		fresh.Set(reflect.MakeSlice(v.Type(), v.Len()+room, v.Len()+room))
		for i := range v.Len() {
			fresh.Index(i).Set(rebuiltValue(v.Index(i), room))
		}
		for i := range room {
			write(fresh.Index(v.Len()+i), "unused", 70)
		}
		fresh.SetLen(v.Len())
	default:
		fresh.Set(v)
	}
	return fresh
}

// write writes over all strings and numbers in v.
func write(v reflect.Value, text string, number int) {
	eachCell(v, func(cell reflect.Value) {
		if cell.Kind() == reflect.String {
			cell.SetString(text)
		} else {
			cell.SetInt(int64(number))
		}
	})
}

// eachCell calls do with each string and each number in v, those in the unused
// capacity of lists included.
func eachCell(v reflect.Value, do func(cell reflect.Value)) {
	switch v.Kind() {
	case reflect.Struct:
		for i := range v.NumField() {
			eachCell(v.Field(i), do)
		}
	case reflect.Slice:
		for i := range v.Cap() {
			eachCell(v.Slice(0, v.Cap()).Index(i), do)
		}
	default:
		do(v)
	}
}

// numbered returns a copy of v whose offsets are the numbers behind last.
func numbered[T any](v T, last int) T {
	fresh := rebuilt(v, 0)
	eachAt(reflect.ValueOf(&fresh).Elem(), func(at reflect.Value) {
		last++
		at.SetInt(int64(last))
	})
	return fresh
}

// eachAt calls do with each offset in v: it has no other numbers.
func eachAt(v reflect.Value, do func(at reflect.Value)) {
	eachCell(v, func(cell reflect.Value) {
		if cell.Kind() == reflect.Int {
			do(cell)
		}
	})
}

// shown returns all that v consists of, and what stands in the unused capacity
// of its lists. A nil and an empty list are shown alike.
func shown(v any) string {
	var text strings.Builder
	show(&text, reflect.ValueOf(v))
	return text.String()
}

func show(text *strings.Builder, v reflect.Value) {
	switch v.Kind() {
	case reflect.Struct:
		text.WriteString("{")
		for i := range v.NumField() {
			show(text, v.Field(i))
		}
		text.WriteString("}")
	case reflect.Slice:
		text.WriteString("[")
		for i := range v.Cap() {
			if i == v.Len() {
				text.WriteString("|")
			}
			show(text, v.Slice(0, v.Cap()).Index(i))
		}
		text.WriteString("]")
	case reflect.String:
		text.WriteString(strconv.Quote(v.String()))
	case reflect.Bool:
		text.WriteString(strconv.FormatBool(v.Bool()))
	default:
		text.WriteString(" " + strconv.FormatInt(v.Int(), 10) + " ")
	}
}

// checkEqual checks that got is want in all fields, At included.
func checkEqual[T any](t *testing.T, what string, got, want T) {
	t.Helper()
	if g, w := shown(rebuilt(got, 0)), shown(rebuilt(want, 0)); g != w {
		t.Errorf("%s = %.500s, want %.500s", what, g, w)
	}
}

// spoil writes over all that v points to.
func spoil(v any) {
	write(reflect.ValueOf(v).Elem(), "spoilt", -70)
}

// checkFresh checks that no two lists in what v points to share memory: all is
// written over, and then read again.
func checkFresh(t *testing.T, v any) {
	t.Helper()
	count, next := 0, 0
	eachCell(reflect.ValueOf(v).Elem(), func(cell reflect.Value) {
		write(cell, strconv.Itoa(count), count)
		count++
	})
	eachCell(reflect.ValueOf(v).Elem(), func(cell reflect.Value) {
		if cell.Kind() == reflect.String && cell.String() != strconv.Itoa(next) || cell.Kind() == reflect.Int && cell.Int() != int64(next) {
			t.Errorf("part %d shares memory with another one", next)
		}
		next++
	})
}

// maker makes types and signatures, most of which are not right. They depend on
// the number that it begins with.
type maker struct{ number uint64 }

// below returns a number from 0 to n - 1.
func (m *maker) below(n int) int {
	m.number = m.number*6364136223846793005 + 1442695040888963407
	return int(m.number>>33) % n
}

// few returns from no items to three.
func few[T any](m *maker, item func() T) []T {
	var l []T
	for range [6]int{0, 0, 1, 2, 2, 3}[m.below(6)] {
		l = append(l, item())
	}
	return l
}

func (m *maker) name() string {
	names := [...]string{"a", "a", "a", "b", "b", "T", "$0", "$1", ""}
	return names[m.below(len(names))]
}

func (m *maker) typ() api.Type {
	t := api.Type{Name: m.name(), At: m.below(99)}
	if m.below(3) == 0 {
		t.Args = few(m, m.typ)
	}
	return t
}

func (m *maker) formal() api.Formal {
	return api.Formal{Name: m.name(), Bound: m.typ(), At: m.below(99)}
}

func (m *maker) param() api.Param {
	return api.Param{Name: m.name(), Type: m.typ(), At: m.below(99)}
}

func (m *maker) sig() api.Sig {
	return api.Sig{Name: m.name(), Formals: few(m, m.formal), Params: few(m, m.param), Result: m.typ(), At: m.below(99)}
}

// made calls do with n makers.
func made(n int, do func(m *maker)) {
	for i := range n {
		do(&maker{number: uint64(i)})
	}
}

// wantType returns t with the args in place of the names, as layer 4 tells.
func wantType(t api.Type, names []string, args []api.Type) api.Type {
	if i := slices.Index(names, t.Name); len(t.Args) == 0 && 0 <= i && i < len(args) {
		return api.Type{Name: args[i].Name, Args: args[i].Args, At: t.At}
	}
	fresh := api.Type{Name: t.Name, At: t.At}
	for _, arg := range t.Args {
		fresh.Args = append(fresh.Args, wantType(arg, names, args))
	}
	return fresh
}

// wantSubst returns s with the args in place of the names.
func wantSubst(s api.Sig, names []string, args []api.Type) api.Sig {
	fresh := api.Sig{Name: s.Name, Result: wantType(s.Result, names, args), At: s.At}
	for _, f := range s.Formals {
		fresh.Formals = append(fresh.Formals, api.Formal{Name: f.Name, Bound: wantType(f.Bound, names, args), At: f.At})
	}
	for _, p := range s.Params {
		fresh.Params = append(fresh.Params, api.Param{Name: p.Name, Type: wantType(p.Type, names, args), At: p.At})
	}
	return fresh
}

// wantNames returns the Names of formals.
func wantNames(l []api.Formal) []string {
	var names []string
	for i := range l {
		names = append(names, l[i].Name)
	}
	return names
}

// wantCanon returns the canonical signature of s.
func wantCanon(s api.Sig) api.Sig {
	var locals []api.Type
	for i := range s.Formals {
		locals = append(locals, of("$"+strconv.Itoa(i)))
	}
	fresh := wantSubst(s, wantNames(s.Formals), locals)
	for i := range fresh.Formals {
		fresh.Formals[i].Name = "$" + strconv.Itoa(i)
	}
	for i := range fresh.Params {
		fresh.Params[i].Name = ""
	}
	return fresh
}

// P10.1

func TestNames(t *testing.T) {
	for text, want := range map[string]string{"": "", "a I": "a", "a I, b J[a, c]": "a b", "b J, a I, c I": "b a c", "a a, b a, a b": "a b a"} {
		if got := strings.Join(Names(formalsOf(t, text)), " "); got != want {
			t.Errorf("Names(%s) = %s", text, got)
		}
	}
	odd := []api.Formal{{Name: "$1"}, {}, {Name: "T[a]", Bound: of("b")}, {Name: "\xff"}, {}}
	if got := Names(odd); !slices.Equal(got, []string{"$1", "", "T[a]", "\xff", ""}) {
		t.Errorf("Names = %q", got)
	}
	if len(Names(nil)) != 0 || len(Names([]api.Formal{})) != 0 {
		t.Error("no formals have Names")
	}
}

func TestBound(t *testing.T) {
	env := numbered(formalsOf(t, "a I, b J[a, List[b]], c b, a X, b b, I c, d d"), 100)
	for _, want := range []struct {
		t     api.Type
		bound int
	}{
		{of("a"), 0},
		{of("b"), 1},
		{of("c"), 2}, // its bound is the variable b
		{of("I"), 5},
		{of("d"), 6},
		{api.Type{Name: "b", Args: []api.Type{}}, 1},
		{api.Type{Name: "a", At: 7}, 0},
		{of("x"), -1},
		{of("J"), -1},
		{of("X"), -1},
		{of("List"), -1},
		{of("A"), -1},
		{of("aa"), -1},
		{of("$0"), -1},
		{of(""), -1},
		{of("a", of("b")), -1},
		{of("b", of("a"), of("a")), -1},
		{of("I", of("")), -1},
	} {
		got, found := Bound(env, want.t)
		if found != (want.bound >= 0) {
			t.Errorf("Bound(%s) = %s, %t", shown(want.t), shown(got), found)
			continue
		}
		bound := api.Type{}
		if found {
			bound = env[want.bound].Bound
		}
		checkEqual(t, "Bound("+shown(want.t)+")", got, bound)
		if _, found := Bound(nil, want.t); found {
			t.Errorf("%s is a variable of nothing", shown(want.t))
		}
	}
}

func TestBoundOfOddNames(t *testing.T) {
	env := []api.Formal{formalOf("$0", of("A")), formalOf("", of("B")), formalOf("\xff", of("")), formalOf("T[a]", of("C", of("$0")))}
	for _, f := range env {
		got, found := Bound(env, of(f.Name))
		if !found {
			t.Errorf("%q is no variable", f.Name)
		}
		checkEqual(t, strconv.Quote(f.Name), got, f.Bound)
	}
	if got, found := Bound(env, of("T", of("a"))); found || shown(got) != shown(api.Type{}) {
		t.Error("T[a] is a variable")
	}
	if _, found := Bound(env[:1], of("")); found {
		t.Error("the empty name is a variable")
	}
}

func TestJoin(t *testing.T) {
	texts := []string{"", "a I", "b J[a, c], a I", "a X[Y[Z]], b I, c J", "z z"}
	for i, first := range texts {
		for k, second := range texts {
			a, b := numbered(formalsOf(t, first), 10*i), numbered(formalsOf(t, second), -50*k)
			var want []api.Formal
			for _, f := range a {
				want = append(want, f)
			}
			for _, f := range b {
				want = append(want, f)
			}
			checkEqual(t, "Join("+first+"; "+second+")", Join(a, b), want)
			checkEqual(t, "Join with room", Join(rebuilt(a, 3), rebuilt(b, 1)), want)
		}
	}
	odd := []api.Formal{{}, formalOf("$0", of("", of("")))}
	checkEqual(t, "Join of odd formals", Join(odd, odd), []api.Formal{odd[0], odd[1], odd[0], odd[1]})
	if len(Join(nil, nil)) != 0 || len(Join([]api.Formal{}, nil)) != 0 {
		t.Error("no formals are joined wrong")
	}
}

// In a joined list, the formals of the first one count before the others.
func TestBoundInJoinedLists(t *testing.T) {
	a, b := formalsOf(t, "a I, b J"), formalsOf(t, "c K, b L")
	for v, want := range map[string]string{"a": "I", "b": "J", "c": "K"} {
		if got, found := Bound(Join(a, b), of(v)); got.Name != want || !found {
			t.Errorf("the bound of %s is %s, %t", v, got.Name, found)
		}
	}
	if got, _ := Bound(Join(b, a), of("b")); got.Name != "L" {
		t.Error("the bound of b is", got.Name)
	}
}

// P10.2

// canonical are texts of signatures with those of their canonical ones.
var canonical = []struct{ text, canon string }{
	{"m() T", "m() T"},
	{"m[a I](x a) a", "m[$0 I]( $0) $0"}, // the example of the chapter
	{"m[b I](y b) b", "m[$0 I]( $0) $0"},
	{"m(x T, y T[U]) L[T]", "m( T,  T[U]) L[T]"},
	{"m[a I]() T", "m[$0 I]() T"},
	{"m[a I[a, c], b J](x a, y L[b]) c", "m[$0 I[$0, c], $1 J]( $0,  L[$1]) c"},
	{"m[a I[b], b J[a]](x b, y a) Map[a, List[b]]", "m[$0 I[$1], $1 J[$0]]( $1,  $0) Map[$0, List[$1]]"},
	{"m[a I](x a[a], y b[a]) a[b[a]]", "m[$0 I]( a[$0],  b[$0]) a[b[$0]]"}, // a with arguments is no a
	{"m[a a](a a, m m) a", "m[$0 $0]( $0,  m) $0"},
	{"a[a I](x b) c", "a[$0 I]( b) c"}, // the name of a method stays
	{"m[a I, a J[a]](x a) a", "m[$0 I, $1 J[$0]]( $0) $0"},
	{"m[c I, b I, a I, b J](x a, y b, z c) T[b, b]", "m[$0 I, $1 I, $2 I, $3 J]( $2,  $1,  $0) T[$1, $1]"},
	{"m[a I, b I, c I, d I, e I, f I, g I, h I, i I, j I, k I](x k) j", "m[$0 I, $1 I, $2 I, $3 I, $4 I, $5 I, $6 I, $7 I, $8 I, $9 I, $10 I]( $10) $9"},
}

func TestCanon(t *testing.T) {
	for _, c := range canonical {
		s := sigOf(t, c.text)
		if got := print.Sig(Canon(s)); got != c.canon {
			t.Errorf("Canon(%s) = %s, want %s", c.text, got, c.canon)
		}
		for _, same := range []api.Sig{s, numbered(s, 1000), numbered(s, -9), numbered(s, math.MaxInt-99), rebuilt(s, 2)} {
			checkEqual(t, "Canon("+c.text+")", Canon(same), wantCanon(same))
		}
	}
	checkEqual(t, "Canon of nothing", Canon(api.Sig{}), api.Sig{})
	checkEqual(t, "Canon of empty lists", Canon(api.Sig{Name: "m", Formals: []api.Formal{}, Params: []api.Param{}, Result: api.Type{Name: "T", Args: []api.Type{}}}), api.Sig{Name: "m", Result: of("T")})
}

func TestOffsetsOfACanonicalSignature(t *testing.T) {
	at := func(at int, t api.Type) api.Type {
		t.At = at
		return t
	}
	s := api.Sig{
		Name:    "m",
		Formals: []api.Formal{{Name: "a", Bound: at(2, of("I", at(3, of("a")))), At: 1}, {Name: "b", Bound: at(5, of("a")), At: 4}},
		Params:  []api.Param{{Name: "x", Type: at(7, of("b")), At: 6}},
		Result:  at(8, of("L", at(9, of("a")), at(10, of("T")))),
		At:      11,
	}
	want := api.Sig{
		Name:    "m",
		Formals: []api.Formal{{Name: "$0", Bound: at(2, of("I", at(3, of("$0")))), At: 1}, {Name: "$1", Bound: at(5, of("$0")), At: 4}},
		Params:  []api.Param{{Type: at(7, of("$1")), At: 6}},
		Result:  at(8, of("L", at(9, of("$0")), at(10, of("T")))),
		At:      11,
	}
	checkEqual(t, "Canon", Canon(s), want)
}

func TestCanonOfAllSorts(t *testing.T) {
	made(5000, func(m *maker) {
		s := m.sig()
		checkEqual(t, "Canon("+shown(s)+")", Canon(s), wantCanon(s))
	})
}

func TestSubst(t *testing.T) {
	for _, want := range []struct {
		text  string
		names []string
		args  []api.Type
		got   string
	}{
		{"m() T", nil, nil, "m() T"},
		{"m() T", []string{"T"}, list("U"), "m() U"},
		{"m() T[T]", []string{"T"}, list("U"), "m() T[U]"},
		{"m(x T, y U) L[T]", []string{"T"}, []api.Type{of("L", of("T"))}, "m(x L[T], y U) L[L[T]]"},
		{"m[a I[a, c], b J](x a, y L[b]) c", []string{"c", "b"}, list("T", "U"), "m[a I[a, T], b J](x a, y L[U]) T"},
		// the Names stay, and Formals hide nothing
		{"m[a a, b m](a a, x x) m", []string{"a", "m", "x", "I"}, list("A", "M", "X", "J"), "m[a A, b M](a A, x X) M"},
		{"m[a I](x a) a", []string{"I", "a"}, []api.Type{of("J", of("a")), of("I")}, "m[a J[a]](x I) I"},
		// all at once, and the first name counts
		{"m[a b](x a, y b) L[a, b]", []string{"a", "b"}, list("b", "a"), "m[a a](x b, y a) L[b, a]"},
		{"m[a b](x a) a", []string{"a", "a", "b", "a"}, list("A", "B", "C", "D"), "m[a C](x A) A"},
		// names without a type, and types without a name
		{"m(x a, y b) c", []string{"a", "b", "c"}, list("A", "B"), "m(x A, y B) c"},
		{"m(x a, y b) c", []string{"a"}, list("A", "B", "C"), "m(x A, y b) c"},
		{"m(x a, y b) c", []string{"a", "b"}, nil, "m(x a, y b) c"},
		{"m(x a, y b) c", nil, list("A", "B"), "m(x a, y b) c"},
		{"m(x a, y b) c", []string{"b", "b"}, list("B"), "m(x a, y B) c"},
		{"m(x a, y b) c", []string{"d", "A", "L[a]", ""}, list("A", "B", "C", "D"), "m(x a, y b) c"},
	} {
		s := sigOf(t, want.text)
		if got := print.Sig(Subst(s, want.names, want.args)); got != want.got {
			t.Errorf("Subst(%s) = %s, want %s", want.text, got, want.got)
		}
		for _, same := range []api.Sig{s, numbered(s, 1000), numbered(s, math.MinInt), rebuilt(s, 2)} {
			args := numbered(want.args, -500)
			checkEqual(t, "Subst("+want.text+")", Subst(same, want.names, args), wantSubst(same, want.names, args))
		}
	}
	checkEqual(t, "Subst of nothing", Subst(api.Sig{}, nil, nil), api.Sig{})
	checkEqual(t, "Subst of the empty name", Subst(api.Sig{}, []string{""}, list("T")), api.Sig{Result: of("T")})
}

func TestSubstOfAllSorts(t *testing.T) {
	made(5000, func(m *maker) {
		s, names, args := m.sig(), few(m, m.name), few(m, m.typ)
		checkEqual(t, "Subst("+shown(s)+")", Subst(s, names, args), wantSubst(s, names, args))
	})
}

// P10.3

func TestAlike(t *testing.T) {
	groups := [][]string{
		{"m() T"},
		{"n() T"},
		{"m() U"},
		{"m() T[a]"},
		{"m() T[b]"},
		{"m[a I]() T", "m[b I]() T", "m[m I]() T", "m[x I]() T"},
		{"m[a J]() T"},
		{"m[a I, b I]() T", "m[b I, a I]() T", "m[b I, b I]() T"},
		{"m[T I]() T", "m[a I]() a", "m[U I]() U"},
		{"m[I I]() T", "m[a a]() T"},
		{"m[a b]() T"},
		{"m(x T) T", "m(y T) T", "m(T T) T"},
		{"m(x T, y T) T", "m(y T, x T) T", "m(x T, x T) T"},
		{"m(x T, y U) T", "m(y T, x U) T"},
		{"m(x U, y T) T"},
		{"m(x T, y T, z T) T"},
		{"m[a I](x a) a", "m[b I](y b) b"},
		{"m[a I](x b) a", "m[c I](x b) c"},
		{"m[b I](x a) b"},
		{"m[a I](x a) b"},
		{"m[a I[a]](x a) L[a]", "m[b I[b]](x b) L[b]", "m[L I[L]](x L) L[L]"},
		{"m[a I[b]](x a) L[a]"},
		{"m[b I[b]](x b) L[a]"},
		{"m[a I, b J](x a) b", "m[b I, a J](x b) a"},
		{"m[a I, b J](x b) a", "m[b I, a J](x a) b"},
		{"m[b J, a I](x a) b"},
		{"m[a I, b J[a]](x a) b", "m[b I, a J[b]](x b) a"},
		{"m[a I, b J[b]](x a) b"},
		{"m[a I, a I](x a) a", "m[a I, b I](x a) a"},
		{"m[a I, b I](x b) b"},
		{"m[a I, b I](x a) b"},
		{"m[a I](x a[a]) T", "m[b I](x a[b]) T"},
		{"m[a I](x b[a]) T"},
	}
	for i, group := range groups {
		for k, other := range groups {
			for _, a := range group {
				for _, b := range other {
					first, second := rebuilt(numbered(sigOf(t, a), 5*i), 1), numbered(sigOf(t, b), -3*k)
					if got := Alike(first, second); got != (i == k) {
						t.Errorf("Alike(%s; %s) = %t", a, b, got)
					}
				}
			}
		}
	}
}

func TestAlikeOfOddSignatures(t *testing.T) {
	empty := api.Sig{Formals: []api.Formal{}, Params: []api.Param{}, Result: api.Type{Args: []api.Type{}}}
	if !Alike(api.Sig{}, empty) || !Alike(empty, api.Sig{}) || Alike(empty, api.Sig{Name: "m"}) || Alike(empty, api.Sig{Formals: make([]api.Formal, 1)}) || Alike(empty, api.Sig{Params: make([]api.Param, 1)}) {
		t.Error("the empty signature is alike to others")
	}
	// A local name that is no formal is the same as the one in its place.
	a, b := sigOf(t, "m[a I](x a) T"), sigOf(t, "m[b I](x z) T")
	b.Params[0].Type.Name = "$0"
	if !Alike(a, b) || !Alike(b, a) {
		t.Error("the canonical signatures are the same, but Alike is false")
	}
	b.Params[0].Type.Name = "$1"
	if Alike(a, b) || Alike(b, a) {
		t.Error("the canonical signatures are not the same, but Alike is true")
	}
}

// renamed returns s with other Names of Formals and Params: those of the
// Formals are followed by an underscore, where they are used too.
func renamed(s api.Sig) api.Sig {
	names := wantNames(s.Formals)
	var fresh []api.Type
	for _, s := range names {
		fresh = append(fresh, of(s+"_"))
	}
	s = wantSubst(s, names, fresh)
	for i := range s.Formals {
		s.Formals[i].Name += "_"
	}
	for i := range s.Params {
		s.Params[i].Name = strings.Repeat("z", i)
	}
	return s
}

func TestAlikeIfRenamed(t *testing.T) {
	made(3000, func(m *maker) {
		s := m.sig()
		other := numbered(renamed(s), 1)
		if !Alike(s, other) || !Alike(other, s) || !Alike(s, rebuilt(s, 1)) {
			t.Errorf("%s and %s are not alike", shown(s), shown(other))
		}
	})
}

// replacements calls do with each way in which s differs in one string or in
// the length of one list from what it is, and changes it back.
func replacements(v reflect.Value, do func()) {
	switch v.Kind() {
	case reflect.Struct:
		for i := range v.NumField() {
			replacements(v.Field(i), do)
		}
	case reflect.Slice:
		old := reflect.ValueOf(v.Interface())
		for i := range v.Len() {
			replacements(v.Index(i), do)
			v.Set(reflect.AppendSlice(old.Slice3(0, i, i), old.Slice(i+1, old.Len())))
			do()
			v.Set(old)
		}
		v.Set(reflect.Append(old.Slice3(0, old.Len(), old.Len()), reflect.Zero(v.Type().Elem())))
		do()
		v.Set(old)
	case reflect.String:
		old := v.String()
		for _, other := range []string{"a", "b", "T", "$0", "$1", ""} {
			v.SetString(other)
			do()
		}
		v.SetString(old)
	}
}

func TestAlikeForEachChange(t *testing.T) {
	alike, others := 0, 0
	made(300, func(m *maker) {
		s := m.sig()
		changed := rebuilt(s, 0)
		canon := print.Sig(wantCanon(s))
		replacements(reflect.ValueOf(&changed).Elem(), func() {
			// The texts tell all of these apart, as no name has a bracket,
			// a comma or a blank.
			want := print.Sig(wantCanon(changed)) == canon
			if Alike(s, changed) != want || Alike(changed, s) != want {
				t.Fatalf("Alike(%s; %s) = %t", shown(s), shown(changed), !want)
			}
			if want {
				alike++
			} else {
				others++
			}
		})
	})
	if alike < 1000 || others < 1000 {
		t.Error("there are only", alike, others)
	}
}

// P10.4

func TestApply(t *testing.T) {
	for _, want := range []struct {
		text  string
		targs []api.Type
		got   string
	}{
		{"m() T", nil, "m() T"},
		{"m(x a) T[b]", []api.Type{}, "m(x a) T[b]"},
		{"m[a I](x a) a", list("T"), "m[a I](x T) T"},
		{"m[a I](x a) a", []api.Type{of("L", of("a"))}, "m[a I](x L[a]) L[a]"},
		{"m[a I[a, c], b J](x a, y L[b]) c", list("T", "a"), "m[a I[T, c], b J](x T, y L[a]) c"},
		{"m[a I[b], b J[a]](a b, b a) Map[a, List[b]]", list("b", "a"), "m[a I[a], b J[b]](a a, b b) Map[b, List[a]]"},
		{"m[a I](x a[a]) b[a, a]", []api.Type{of("P", of("Q"), of("R"))}, "m[a I](x a[P[Q, R]]) b[P[Q, R], P[Q, R]]"},
		{"m[a I, a a](x a) a", list("T", "U"), "m[a I, a T](x T) T"},
		{"m[m m](m m) m", list("T"), "m[m T](m T) T"},
		{"m[a I, b J, c K]() T", list("A", "B", "C"), "m[a I, b J, c K]() T"},
		{"m[a I](x a) a", list("a"), "m[a I](x a) a"},
		{"m[a I](x a) a", list(""), "m[a I](x ) "},
	} {
		s := sigOf(t, want.text)
		got, fits := Apply(s, want.targs)
		if print.Sig(got) != want.got || !fits {
			t.Errorf("Apply(%s) = %s, %t, want %s", want.text, print.Sig(got), fits, want.got)
		}
		for _, same := range []api.Sig{numbered(s, 1000), numbered(s, -99), rebuilt(s, 2)} {
			targs := numbered(want.targs, 500)
			got, fits := Apply(same, targs)
			if !fits {
				t.Errorf("Apply(%s) fails", want.text)
			}
			checkEqual(t, "Apply("+want.text+")", got, wantSubst(same, wantNames(same.Formals), targs))
		}
		for n := range 6 {
			checkNotApplied(t, s, list("A", "B", "C", "D", "E")[:n])
		}
	}
	if got, fits := Apply(api.Sig{}, nil); !fits || shown(got) != shown(api.Sig{}) {
		t.Error("the empty signature can't be applied")
	}
}

// checkNotApplied checks that Apply fails, if the number of targs is wrong.
func checkNotApplied(t *testing.T, s api.Sig, targs []api.Type) {
	t.Helper()
	if len(targs) == len(s.Formals) {
		return
	}
	got, fits := Apply(s, targs)
	if fits || shown(got) != shown(api.Sig{}) {
		t.Errorf("Apply(%s) to %d types = %s, %t", print.Sig(s), len(targs), shown(got), fits)
	}
}

func TestApplyOfAllSorts(t *testing.T) {
	applied := 0
	made(5000, func(m *maker) {
		s, targs := m.sig(), few(m, m.typ)
		if len(targs) != len(s.Formals) {
			checkNotApplied(t, s, targs)
			return
		}
		got, fits := Apply(s, targs)
		if !fits {
			t.Errorf("Apply(%s) fails", shown(s))
		}
		checkEqual(t, "Apply("+shown(s)+")", got, wantSubst(s, wantNames(s.Formals), targs))
		applied++
	})
	if applied < 1000 {
		t.Error("there are only", applied)
	}
}

// P10.5

func TestTheCanonicalSignatureOfACanonicalOne(t *testing.T) {
	check := func(s api.Sig) {
		once := Canon(s)
		twice := Canon(once)
		if !decl.SameSig(once, twice) || !Alike(s, once) || !Alike(once, twice) {
			t.Errorf("Canon(%s) = %s", shown(once), shown(twice))
		}
		checkEqual(t, "Canon of "+shown(once), twice, once)
	}
	for _, c := range canonical {
		check(sigOf(t, c.text))
	}
	for _, s := range []api.Sig{
		{},
		{Formals: []api.Formal{formalOf("$1", of("$0")), formalOf("$0", of("$1")), formalOf("$1", of("$2"))}, Params: []api.Param{paramOf("$0", of("$1"))}, Result: of("$1", of("$0"))},
		{Name: "$0", Formals: []api.Formal{formalOf("a", of("$0"))}, Params: []api.Param{paramOf("a", of("$1"))}, Result: of("$0")},
	} {
		check(s)
	}
	made(3000, func(m *maker) { check(m.sig()) })
}

// What is returned shares no memory.

// calls are the functions with results that have memory. All arguments are in
// given, which has types in many places.
var calls = map[string]func(given *arguments) any{
	"Names":  func(g *arguments) any { l := Names(g.Env); return &l },
	"Bound":  func(g *arguments) any { b, _ := Bound(g.Env, g.Variable); return &b },
	"Join":   func(g *arguments) any { l := Join(g.Env, g.Sig.Formals); return &l },
	"Twice":  func(g *arguments) any { l := Join(g.Env, g.Env); return &l },
	"Left":   func(g *arguments) any { l := Join(g.Env, nil); return &l },
	"Right":  func(g *arguments) any { l := Join(nil, g.Env); return &l },
	"Canon":  func(g *arguments) any { s := Canon(g.Sig); return &s },
	"Subst":  func(g *arguments) any { s := Subst(g.Sig, g.Names, g.Args); return &s },
	"Clone":  func(g *arguments) any { s := Subst(g.Sig, nil, nil); return &s },
	"Apply":  func(g *arguments) any { s, _ := Apply(g.Sig, g.Targs); return &s },
	"Nobody": func(g *arguments) any { s, _ := Apply(g.Sig, nil); return &s },
	"Alike":  func(g *arguments) any { l := []bool{Alike(g.Sig, g.Other), Alike(g.Sig, g.Sig)}; return &l },
}

type arguments struct {
	Env         []api.Formal
	Variable    api.Type
	Sig, Other  api.Sig
	Names       []string
	Args, Targs []api.Type
}

// allArguments returns arguments for all functions, with unused capacity.
func allArguments(t *testing.T) *arguments {
	t.Helper()
	deep := of("L", of("M", of("c")), of("N"))
	g := arguments{
		Env:      formalsOf(t, "a I[a, P[b]], b J[K], a L"),
		Variable: of("a"),
		Sig:      sigOf(t, "m[a I[a, c], b J[L[b]]](x a, y L[b, a], z T[c]) Map[a, c, List[b]]"),
		Other:    sigOf(t, "m[d I[d, c], e J[L[e]]](u d, v L[e, d], w T[c]) Map[d, c, List[e]]"),
		Names:    []string{"c", "b"},
		Args:     []api.Type{deep, deep},
		Targs:    []api.Type{deep, deep},
	}
	g = numbered(rebuilt(g, 0), 0)
	g = rebuilt(g, 3)
	return &g
}

func TestArgumentsStayAsTheyAre(t *testing.T) {
	for what, call := range calls {
		g := allArguments(t)
		before := shown(*g)
		first := shown(reflect.ValueOf(call(g)).Elem().Interface())
		if after := shown(*g); after != before {
			t.Errorf("%s: %s is %s then", what, before, after)
		}
		if second := shown(reflect.ValueOf(call(g)).Elem().Interface()); second != first {
			t.Errorf("%s: %s is %s then", what, first, second)
		}
	}
}

func TestNoMemoryIsShared(t *testing.T) {
	for what, call := range calls {
		if what == "Alike" {
			continue
		}
		g := allArguments(t)
		before := shown(*g)
		result, other := call(g), call(g)
		want := shown(reflect.ValueOf(other).Elem().Interface())
		checkFresh(t, result)
		spoil(result)
		if after := shown(*g); after != before {
			t.Errorf("%s: when the result changes, %s is %s", what, before, after)
		}
		if after := shown(reflect.ValueOf(other).Elem().Interface()); after != want {
			t.Errorf("%s: when the result changes, another result is %s", what, after)
		}
		spoil(g)
		if after := shown(reflect.ValueOf(other).Elem().Interface()); after != want {
			t.Errorf("%s: when the arguments change, %s is %s", what, want, after)
		}
	}
}

// The lists of the arguments may share memory themselves.
func TestNoMemoryIsSharedWhereTheArgumentsShare(t *testing.T) {
	args := []api.Type{of("T", of("U"))}
	f := []api.Formal{formalOf("a", of("I", args...)), formalOf("b", of("I", args...))}
	p := []api.Param{paramOf("x", of("L", args...)), paramOf("y", of("a"))}
	s := api.Sig{Name: "m", Formals: f, Params: p, Result: of("L", args...)}
	canon, subst, joined := Canon(s), Subst(s, []string{"U", "a"}, []api.Type{args[0], args[0]}), Join(f, f)
	applied, _ := Apply(s, []api.Type{args[0], args[0]})
	for _, v := range []any{&canon, &subst, &joined, &applied} {
		checkFresh(t, v)
	}
	if types.Text(args[0]) != "T[U]" {
		t.Error("the arguments are changed")
	}
}

// All promises

// manyFormals returns formals a0, a1 and so on, each of which is bounded by the
// one behind it, and a signature with them and a parameter of each.
func manyFormals(n int) api.Sig {
	s := api.Sig{Name: "m", Result: of("R")}
	for i := range n {
		v := "a" + strconv.Itoa(i)
		s.Formals = append(s.Formals, formalOf(v, of("I", of("a"+strconv.Itoa(i+1)))))
		s.Params = append(s.Params, paramOf("x", of(v)))
	}
	return s
}

func TestManyFormals(t *testing.T) {
	s := manyFormals(many)
	canon := Canon(s)
	var targs []api.Type
	for i := range many {
		targs = append(targs, of("T"+strconv.Itoa(i)))
	}
	applied, fits := Apply(s, targs)
	names, joined := Names(s.Formals), Join(s.Formals, canon.Formals)
	if !fits || len(names) != many || len(joined) != 2*many {
		t.Fatal(fits, len(names), len(joined))
	}
	for i := range many {
		last := i == many-1
		n := strconv.Itoa(i + 1)
		if canon.Formals[i].Name != name.Local(i) || canon.Params[i].Type.Name != name.Local(i) || !last && canon.Formals[i].Bound.Args[0].Name != name.Local(i+1) {
			t.Fatal("the canonical signature is wrong at", i)
		}
		if applied.Formals[i].Name != names[i] || applied.Params[i].Type.Name != targs[i].Name || !last && applied.Formals[i].Bound.Args[0].Name != "T"+n {
			t.Fatal("the applied signature is wrong at", i)
		}
		if names[i] != s.Formals[i].Name || joined[i].Name != names[i] || joined[many+i].Name != name.Local(i) {
			t.Fatal("the lists are wrong at", i)
		}
	}
	if got, found := Bound(joined, of(name.Local(many-1))); !found || types.Text(got) != "I[a"+strconv.Itoa(many)+"]" {
		t.Error("the last bound is", types.Text(got), found)
	}
	other := rebuilt(s, 0)
	if !Alike(s, other) || !Alike(s, canon) {
		t.Error("the same are not alike")
	}
	other.Params[many-1].Type.Name = "a0"
	if Alike(s, other) {
		t.Error("others are alike")
	}
	if _, fits := Apply(s, targs[1:]); fits {
		t.Error("there is one type too few")
	}
}

func TestTheDeepestTypes(t *testing.T) {
	deep := spine(many, of("a"))
	s := api.Sig{Name: "m", Formals: []api.Formal{formalOf("a", deep)}, Params: []api.Param{paramOf("x", deep)}, Result: deep}
	other := api.Sig{Name: "m", Formals: []api.Formal{formalOf("b", spine(many, of("b")))}, Params: []api.Param{paramOf("y", spine(many, of("b")))}, Result: spine(many, of("b"))}
	if !Alike(s, other) {
		t.Error("deep signatures are not alike")
	}
	other.Result = spine(many, of("a"))
	if Alike(s, other) {
		t.Error("other deep signatures are alike")
	}
	applied, fits := Apply(s, []api.Type{of("P", of("Q"))})
	if !fits || types.Depth(applied.Result) != many+1 || types.Depth(applied.Formals[0].Bound) != many+1 || types.Depth(applied.Params[0].Type) != many+1 {
		t.Error("a deep signature is applied wrong")
	}
	if got, found := Bound(s.Formals, of("a")); !found || types.Depth(got) != many {
		t.Error("the bound is not as deep")
	}
}

// Rule 8: the functions may be called concurrently.
func TestConcurrentCalls(t *testing.T) {
	g := allArguments(t)
	results := func() string {
		var all []string
		for what, call := range calls {
			result := call(g)
			all = append(all, what+shown(reflect.ValueOf(result).Elem().Interface()))
			if what != "Alike" {
				spoil(result)
			}
		}
		slices.Sort(all)
		return strings.Join(all, "\n")
	}
	want := results()
	var done sync.WaitGroup
	for range 8 {
		done.Go(func() {
			for range 100 {
				if results() != want {
					t.Error("a concurrent call went wrong")
					return
				}
			}
		})
	}
	done.Wait()
}

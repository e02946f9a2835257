package method

import (
	"cmp"
	"math"
	"reflect"
	"slices"
	"strconv"
	"strings"
	"sync"
	"testing"

	"castings/api"
	"castings/bind"
	"castings/parse"
	"castings/print"
	"castings/table"
	"castings/types"
)

// many is the greatest number of parts of a type.
const many = 1 << 16

// of returns a type.
func of(name string, args ...api.Type) api.Type {
	return api.Type{Name: name, Args: args}
}

func formalOf(name string, bound api.Type) api.Formal {
	return api.Formal{Name: name, Bound: bound}
}

func paramOf(name string, t api.Type) api.Param {
	return api.Param{Name: name, Type: t}
}

// named returns a signature without parameters.
func named(m string, result api.Type) api.Sig {
	return api.Sig{Name: m, Result: result}
}

// programOf returns the program with the declarations of a text.
func programOf(t *testing.T, decls string) api.Program {
	t.Helper()
	p, err := parse.Program("package main; " + decls + " func main() { _ = x }")
	if err != nil {
		t.Fatal(decls, err)
	}
	return p
}

// tableOf returns the table of the program with the declarations of a text.
func tableOf(t *testing.T, decls string) *table.Table {
	t.Helper()
	return table.New(programOf(t, decls))
}

// sigsOf returns the signatures that a text is of, with a semicolon behind each.
func sigsOf(t *testing.T, text string) []api.Sig {
	t.Helper()
	d, err := parse.Decl("type I interface {" + text + "};")
	if err != nil {
		t.Fatal(text, err)
	}
	return d.Sigs
}

// typeOf returns the type that a text is of.
func typeOf(t *testing.T, text string) api.Type {
	t.Helper()
	return sigsOf(t, "m() "+text+";")[0].Result
}

// envOf returns the environment that a text is of: a I, b J.
func envOf(t *testing.T, text string) []api.Formal {
	t.Helper()
	if text == "" {
		return nil
	}
	return sigsOf(t, "m["+text+"]() T;")[0].Formals
}

// sigsText returns the texts of signatures, with a semicolon behind each.
func sigsText(l []api.Sig) string {
	text := ""
	for _, s := range l {
		text += print.Sig(s) + ";"
	}
	return text
}

// rebuilt returns a copy of v in new memory, made without the package, in which
// each list has some unused capacity, filled with what can be recognised. Its
// empty lists are nil, if there is none.
func rebuilt[T any](v T, room int) T {
	return rebuiltValue(reflect.ValueOf(v), room).Interface().(T)
}

func rebuiltValue(v reflect.Value, room int) reflect.Value {
	fresh := reflect.New(v.Type()).Elem()
	switch v.Kind() {
	case reflect.Struct:
		for i := range v.NumField() {
			fresh.Field(i).Set(rebuiltValue(v.Field(i), room))
		}
	case reflect.Slice:
		if v.Len()+room == 0 {
			return fresh
		}
		fresh.Set(reflect.MakeSlice(v.Type(), v.Len()+room, v.Len()+room))
		for i := range v.Len() {
			fresh.Index(i).Set(rebuiltValue(v.Index(i), room))
		}
		for i := range room {
			write(fresh.Index(v.Len()+i), "unused", 70)
		}
		fresh.SetLen(v.Len())
	default:
		fresh.Set(v)
	}
	return fresh
}

// write writes over all strings and numbers in v.
func write(v reflect.Value, text string, number int) {
	eachCell(v, func(cell reflect.Value) {
		if cell.Kind() == reflect.String {
			cell.SetString(text)
		} else {
			cell.SetInt(int64(number))
		}
	})
}

// eachCell calls do with each string and each number in v, those in the unused
// capacity of lists included.
func eachCell(v reflect.Value, do func(cell reflect.Value)) {
	switch v.Kind() {
	case reflect.Struct:
		for i := range v.NumField() {
			eachCell(v.Field(i), do)
		}
	case reflect.Slice:
		for i := range v.Cap() {
			eachCell(v.Slice(0, v.Cap()).Index(i), do)
		}
	default:
		do(v)
	}
}

// numbered returns a copy of v whose offsets are the numbers behind last.
func numbered[T any](v T, last int) T {
	fresh := rebuilt(v, 0)
	numberAt(reflect.ValueOf(&fresh).Elem(), &last)
	return fresh
}

// numberAt numbers the fields At in v: the Kinds stay.
func numberAt(v reflect.Value, last *int) {
	switch v.Kind() {
	case reflect.Struct:
		for i := range v.NumField() {
			if v.Type().Field(i).Name == "At" {
				*last++
				v.Field(i).SetInt(int64(*last))
			} else {
				numberAt(v.Field(i), last)
			}
		}
	case reflect.Slice:
		for i := range v.Len() {
			numberAt(v.Index(i), last)
		}
	}
}

// shown returns all that v consists of, and what stands in the unused capacity
// of its lists. A nil and an empty list are shown alike.
func shown(v any) string {
	var text strings.Builder
	show(&text, reflect.ValueOf(v))
	return text.String()
}

func show(text *strings.Builder, v reflect.Value) {
	switch v.Kind() {
	case reflect.Struct:
		text.WriteString("{")
		for i := range v.NumField() {
			show(text, v.Field(i))
		}
		text.WriteString("}")
	case reflect.Slice:
		text.WriteString("[")
		for i := range v.Cap() {
			if i == v.Len() {
				text.WriteString("|")
			}
			show(text, v.Slice(0, v.Cap()).Index(i))
		}
		text.WriteString("]")
	case reflect.String:
		text.WriteString(strconv.Quote(v.String()))
	case reflect.Bool:
		text.WriteString(strconv.FormatBool(v.Bool()))
	default:
		text.WriteString(" " + strconv.FormatInt(v.Int(), 10) + " ")
	}
}

// checkEqual checks that got is want in all fields, At included.
func checkEqual[T any](t *testing.T, what string, got, want T) {
	t.Helper()
	if g, w := shown(rebuilt(got, 0)), shown(rebuilt(want, 0)); g != w {
		t.Errorf("%s = %.500s, want %.500s", what, g, w)
	}
}

// spoil writes over all that v points to.
func spoil(v any) {
	write(reflect.ValueOf(v).Elem(), "spoilt", -70)
}

// checkFresh checks that no two lists in what v points to share memory: all is
// written over, and then read again.
func checkFresh(t *testing.T, what string, v any) {
	t.Helper()
	count, next := 0, 0
	eachCell(reflect.ValueOf(v).Elem(), func(cell reflect.Value) {
		write(cell, strconv.Itoa(count), count)
		count++
	})
	eachCell(reflect.ValueOf(v).Elem(), func(cell reflect.Value) {
		if cell.Kind() == reflect.String && cell.String() != strconv.Itoa(next) || cell.Kind() == reflect.Int && cell.Int() != int64(next) {
			t.Errorf("%s: part %d shares memory with another one", what, next)
		}
		next++
	})
}

// maker makes programs and lists, most of which are not right. They depend on
// the number that it begins with.
type maker struct{ number uint64 }

// below returns a number from 0 to n - 1.
func (m *maker) below(n int) int {
	m.number = m.number*6364136223846793005 + 1442695040888963407
	return int(m.number>>33) % n
}

// upTo returns from no items to n.
func upTo[T any](m *maker, n int, item func() T) []T {
	var l []T
	for range m.below(n + 1) {
		l = append(l, item())
	}
	return l
}

// typeNames are the names of types, and methodNames those of methods, in
// programs that are made.
var (
	typeNames   = [...]string{"a", "b", "S", "T", "T", "$0", ""}
	methodNames = [...]string{"m", "n", "mm", "M", "", "m_", "\xff"}
)

func (m *maker) typeName() string { return typeNames[m.below(len(typeNames))] }

func (m *maker) methodName() string { return methodNames[m.below(len(methodNames))] }

func (m *maker) typ() api.Type {
	t := api.Type{Name: m.typeName(), At: m.below(99)}
	if m.below(4) == 0 {
		t.Args = upTo(m, 2, m.typ)
	}
	return t
}

func (m *maker) formal() api.Formal {
	return api.Formal{Name: m.typeName(), Bound: m.typ(), At: m.below(99)}
}

func (m *maker) param() api.Param {
	return api.Param{Name: m.methodName(), Type: m.typ(), At: m.below(99)}
}

func (m *maker) sig() api.Sig {
	return api.Sig{Name: m.methodName(), Formals: upTo(m, 2, m.formal), Params: upTo(m, 2, m.param), Result: m.typ(), At: m.below(99)}
}

// simpleSig returns a signature that is often alike with another one.
func (m *maker) simpleSig() api.Sig {
	s := api.Sig{Name: m.methodName(), Result: of(typeNames[m.below(2)]), At: m.below(99)}
	if m.below(3) == 0 {
		s.Formals = []api.Formal{{Name: typeNames[m.below(2)], At: m.below(99)}}
	}
	if m.below(5) == 0 {
		s.Params = []api.Param{m.param()}
		s.Params[0].Type = s.Result
	}
	return s
}

func (m *maker) decl() api.Decl {
	kinds := [...]int{1, 2, 2, 3, 3, 3, 3, 3, 3, 3, 3, 4}
	return api.Decl{
		Kind: kinds[m.below(len(kinds))], Name: m.typeName(), Formals: upTo(m, 1, m.formal), Sigs: upTo(m, 6, m.sig),
		Recv: m.methodName(), Vars: upTo(m, 1, m.typeName), Sig: m.sig(), At: m.below(99),
	}
}

// made calls do with n programs, an environment, and types with each name that
// may stand in them and some numbers of Args.
func made(n int, do func(p api.Program, env []api.Formal, l []api.Type)) {
	for i := range n {
		m := &maker{number: uint64(i)}
		p := api.Program{Decls: upTo(m, 25, m.decl)}
		env := upTo(m, 3, m.formal)
		var l []api.Type
		for _, s := range append(typeNames[:], "unknown") {
			for count := range 3 {
				x := api.Type{Name: s, At: m.below(99)}
				for range count {
					x.Args = append(x.Args, m.typ())
				}
				l = append(l, x)
			}
		}
		do(p, env, l)
	}
}

// What the chapter says, in its order.

// wantInstance reports whether x is an instance of a declaration of the kind.
func wantInstance(x *table.Table, y api.Type, kind int) bool {
	return x.Kind(y.Name) == kind && len(x.Formals(y.Name)) == len(y.Args)
}

// wantVariable returns the index of the formal that y is a variable of; -1, if
// it is none.
func wantVariable(env []api.Formal, y api.Type) int {
	for i := range env {
		if len(y.Args) == 0 && env[i].Name == y.Name {
			return i
		}
	}
	return -1
}

// wantSet returns the method set of y in env.
func wantSet(x *table.Table, env []api.Formal, y api.Type) []api.Sig {
	if i := wantVariable(env, y); i >= 0 {
		if wantInstance(x, env[i].Bound, api.Interface) {
			return wantSet(x, nil, env[i].Bound)
		}
		return nil
	}
	var l []api.Sig
	if wantInstance(x, y, api.Struct) {
		l = x.Methods(y)
	}
	if wantInstance(x, y, api.Interface) {
		l, _ = x.Specs(y)
	}
	// The least of the rest comes next.
	for i := range l {
		for j := i + 1; j < len(l); j++ {
			if cmp.Less(l[j].Name, l[i].Name) {
				l[i], l[j] = l[j], l[i]
			}
		}
	}
	return l
}

// wantFirst returns the index of the first signature of l named m; -1, if there
// is none.
func wantFirst(l []api.Sig, m string) int {
	for i := range l {
		if l[i].Name == m {
			return i
		}
	}
	return -1
}

// wantMissing returns the Names of the signatures of b that a has nothing for.
func wantMissing(a, b []api.Sig) []string {
	var names []string
	for _, s := range b {
		if i := wantFirst(a, s.Name); i < 0 || !bind.Alike(a[i], s) {
			names = append(names, s.Name)
		}
	}
	return names
}

// checkType compares all that is told of y with what the chapter says.
func checkType(t *testing.T, x *table.Table, env []api.Formal, y api.Type) {
	t.Helper()
	want, got := wantSet(x, env, y), Set(x, env, y)
	checkEqual(t, "Set("+shown(env)+", "+shown(y)+")", got, want)
	for _, m := range append(methodNames[:], "unknown", "s", "t", "u", "v") {
		i := wantFirst(want, m)
		wantSig := api.Sig{}
		if i >= 0 {
			wantSig = want[i]
		}
		s, found := Find(x, env, y, m)
		checkEqual(t, "Find("+shown(env)+", "+shown(y)+", "+m+")", s, wantSig)
		if found != (i >= 0) {
			t.Errorf("Find(%s, %s, %q) is %t", shown(env), shown(y), m, found)
		}
	}
	checkCoversItself(t, got)
}

// checkCoversItself checks that a method set covers itself, and that no Name
// stands twice in it.
func checkCoversItself(t *testing.T, l []api.Sig) {
	t.Helper()
	if !Covers(l, l) || len(Missing(l, l)) != 0 {
		t.Errorf("%s does not cover itself", sigsText(l))
	}
	for i := range l {
		if wantFirst(l, l[i].Name) != i {
			t.Errorf("%q stands twice in %s", l[i].Name, sigsText(l))
		}
	}
}

// checkMissing checks which Names are missing, and with that what is covered.
func checkMissing(t *testing.T, a, b []api.Sig, want []string) {
	t.Helper()
	if got := Missing(a, b); !slices.Equal(got, want) {
		t.Errorf("Missing(%s, %s) = %q, want %q", shown(a), shown(b), got, want)
	}
	if got := Covers(a, b); got != (len(want) == 0) {
		t.Errorf("Covers(%s, %s) = %t", shown(a), shown(b), got)
	}
}

// sample has declarations of all sorts, with more than one of some Names.
const sample = "type Any interface {}; " +
	"type P[a Any, b G[a]] struct { l a; r P[b, a]; }; " +
	"type P struct { x Any; }; " +
	"type P[a Any, b Any] interface { m() a; }; " +
	"type G[a Any] interface { n() a; m[c G[a]](x a, y c) c; b() Any; m() a; }; " +
	"type G struct { x Any; }; " +
	"type E struct {}; " +
	"type F struct {}; " +
	"type H interface { t() v; s() F; }; " +
	"func (p P[x, y]) v() x { return p.r }; " +
	"func (p P[x, y]) s[c G[x]](z c, z P[x, c]) P[y, c] { return p.r }; " +
	"func (p P[x, y]) s() Any { return p }; " +
	"func (p P[x]) u() Any { return p }; " +
	"func (p P[x, y]) u() Any { return p }; " +
	"func (p P[y, x]) t() y { return p.l }; " +
	"func (g G[x]) m() x { return g }; " +
	"func (e E) v(x E) Any { return e }; " +
	"func (q Q) v() Any { return q };"

// The method sets of H and of G[T] for this program.
const (
	setOfH  = "s() F;t() v;"
	setOfGT = "b() Any;m[$0 G[T]]( T,  $0) $0;n() T;"
)

// P12.1

func TestSet(t *testing.T) {
	x := tableOf(t, sample)
	for text, want := range map[string]string{
		// structs
		"P[T, U]":       "s[$0 G[T]]( $0,  P[T, $0]) P[U, $0];t() T;v() T;",
		"P[b, a]":       "s[$0 G[b]]( $0,  P[b, $0]) P[a, $0];t() b;v() b;",
		"P[y, L[x]]":    "s[$0 G[y]]( $0,  P[y, $0]) P[L[x], $0];t() y;v() y;",
		"P[P[E, E], E]": "s[$0 G[P[E, E]]]( $0,  P[P[E, E], $0]) P[E, $0];t() P[E, E];v() P[E, E];",
		"E":             "v( E) Any;",
		"F":             "",
		// interfaces
		"G[T]":    setOfGT,
		"G[G[c]]": "b() Any;m[$0 G[G[c]]]( G[c],  $0) $0;n() G[c];",
		"G[P]":    "b() Any;m[$0 G[P]]( P,  $0) $0;n() P;",
		"H":       setOfH,
		"Any":     "",
		// others
		"P": "", "P[E]": "", "P[E, E, E]": "", "G": "", "G[E, E]": "", "H[E]": "", "E[E]": "", "F[E]": "", "Any[E]": "",
		"Q": "", "Q[E]": "", "a": "", "x": "", "p": "", "t": "", "unknown": "",
	} {
		for _, env := range []string{"", "v H, w G[T]"} {
			if got := sigsText(Set(x, envOf(t, env), typeOf(t, text))); got != want {
				t.Errorf("Set(%s, %s) = %s", env, text, got)
			}
			checkType(t, x, envOf(t, env), typeOf(t, text))
		}
	}
}

func TestSetOfVariables(t *testing.T) {
	x := tableOf(t, sample)
	for _, c := range []struct{ env, of, want string }{
		{"v H", "v", setOfH},
		{"v G[T]", "v", setOfGT},
		{"v G[v]", "v", "b() Any;m[$0 G[v]]( v,  $0) $0;n() v;"},
		{"v G[w], w Any", "v", "b() Any;m[$0 G[w]]( w,  $0) $0;n() w;"},
		{"v Any", "v", ""},
		{"u Any, w E, v H", "v", setOfH},
		// the bound is no instance of an interface
		{"v E", "v", ""}, {"v P[T, U]", "v", ""}, {"v G", "v", ""}, {"v G[T, U]", "v", ""}, {"v H[T]", "v", ""}, {"v unknown", "v", ""}, {"v Q", "v", ""}, {"v v", "v", ""},
		// nor is it one, if it is a variable
		{"v w, w H", "v", ""}, {"w H, v w", "v", ""}, {"v w, w H", "w", setOfH},
		// the first formal counts
		{"v H, v G[T]", "v", setOfH}, {"v G[T], v H", "v", setOfGT}, {"v E, v H", "v", ""}, {"v Any, v H", "v", ""}, {"v unknown, v H", "v", ""},
		// whatever declarations there are with its Name
		{"E H", "E", setOfH}, {"E Any", "E", ""}, {"E E", "E", ""}, {"E F", "E", ""}, {"H G[T]", "H", setOfGT}, {"H Any", "H", ""}, {"H E", "H", ""}, {"H unknown", "H", ""}, {"G H", "G", setOfH}, {"P H", "P", setOfH}, {"Any H", "Any", setOfH}, {"Q H", "Q", setOfH},
		// the bound is one of the empty environment
		{"H H", "H", setOfH}, {"v H, H G[T]", "v", setOfH}, {"H G[T], v H", "v", setOfH}, {"v H, H E", "v", setOfH}, {"v E, E H", "v", ""}, {"v G[T], G H", "v", setOfGT}, {"v G[E], E H", "v", "b() Any;m[$0 G[E]]( E,  $0) $0;n() E;"}, {"Any G[T], v Any", "v", ""}, {"G H, H G[T]", "H", setOfGT},
		// types with Args are no variables
		{"G H", "G[T]", setOfGT}, {"H G[T]", "H[T]", ""}, {"E H", "E[T]", ""}, {"v H", "v[T]", ""}, {"P H", "P[T]", ""}, {"unknown H", "unknown[T]", ""},
		// nor are others
		{"v H", "w", ""}, {"v H", "V", ""}, {"v H", "H", setOfH}, {"v H", "E", "v( E) Any;"}, {"v G[T]", "Any", ""},
	} {
		env, y := envOf(t, c.env), typeOf(t, c.of)
		if got := sigsText(Set(x, env, y)); got != c.want {
			t.Errorf("Set(%s, %s) = %s", c.env, c.of, got)
		}
		checkType(t, x, env, y)
	}
}

// Names are in the order of their bytes, wherever they are declared.
func TestSetIsInOrder(t *testing.T) {
	want := []string{"", "\x00", "$0", "$00", "$1", "$10", "$9", "0", "M", "Z", "_", "a", "aB", "a_", "aa", "ab", "b", "m", "m0", "m1", "m10", "m2", "mM", "m_", "mm", "n", "z", "zz", "\x7f", "\x80", "é", "本", "\xff"}
	if !slices.IsSorted(want) {
		t.Fatal("the names are not in order")
	}
	for i := range 20 {
		m := &maker{number: uint64(i)}
		p := api.Program{Decls: []api.Decl{{Kind: api.Struct, Name: "S"}, {Kind: api.Interface, Name: "I"}}}
		names := slices.Clone(want)
		for j := range names {
			k := j + m.below(len(names)-j)
			names[j], names[k] = names[k], names[j]
			s := named(names[j], of("T"))
			p.Decls = append(p.Decls, api.Decl{Kind: api.Method, Name: "S", Sig: s})
			p.Decls[1].Sigs = append(p.Decls[1].Sigs, s)
		}
		x, env := table.New(p), []api.Formal{formalOf("v", of("I"))}
		for _, y := range []string{"S", "I", "v"} {
			var got []string
			for _, s := range Set(x, env, of(y)) {
				got = append(got, s.Name)
			}
			if !slices.Equal(got, want) {
				t.Errorf("the Names of %s are %q", y, got)
			}
			for _, name := range want {
				if s, found := Find(x, env, of(y), name); !found || s.Name != name {
					t.Errorf("Find(%s, %q) = %q, %t", y, name, s.Name, found)
				}
			}
		}
	}
}

func TestExampleOfTheChapter(t *testing.T) {
	x := tableOf(t, "type T struct {}; type I interface { n() T; m() T; };")
	if got := sigsText(Set(x, nil, of("I"))); got != "m() T;n() T;" {
		t.Error(got)
	}
}

// Of those with the same Name the first one counts.
func TestTheFirstDeclarationCounts(t *testing.T) {
	for text, want := range map[string]string{
		"type T interface { n() A; m() A; n() B; m() B; };":                                                              "m() A;n() A;",
		"type T struct {}; func (x T) n() A { return x }; func (x T) m() A { return x }; func (x T) n() B { return x };": "m() A;n() A;",
		"type T interface { m() A; }; type T interface { m() B; n() B; };":                                               "m() A;",
		"type T interface { m() A; }; type T struct {}; func (x T) m() B { return x };":                                  "m() A;",
		"type T struct {}; type T interface { m() B; }; func (x T) n() A { return x };":                                  "n() A;",
		"type T struct {}; type T interface { m() B; };":                                                                 "",
		"func (x T) m() A { return x };":                                                                                 "",
		"func (x T) m() A { return x }; type T interface {};":                                                            "",
		"type T struct {}; func (x U) m() A { return x };":                                                               "",
		"type T struct {}; func (x T[a]) m() A { return x }; func (x T) m() B { return x };":                             "",
		"type T struct {}; func (x T[a]) m() A { return x }; func (x T) n() B { return x };":                             "n() B;",
	} {
		x := tableOf(t, text)
		if got := sigsText(Set(x, nil, of("T"))); got != want {
			t.Errorf("the method set is %s in %s", got, text)
		}
		checkType(t, x, nil, of("T"))
	}
}

// The offsets are those of the declarations, but those within Args are theirs.
func TestOffsetsOfSets(t *testing.T) {
	p := numbered(programOf(t, "type I[a Any] interface { n() a; m[c G[a]](x L[c]) a; }; type S[a Any] struct {}; func (s S[b]) n() b { return s }; func (s S[b]) m[c G[b]](x L[c]) b { return s };"), 0)
	arg := api.Type{Name: "T", Args: []api.Type{{Name: "U", At: 101}}, At: 102}
	in := func(x api.Type) api.Type { return api.Type{Name: "T", Args: arg.Args, At: x.At} }
	want := func(n, m api.Sig) []api.Sig {
		bound, list := m.Formals[0].Bound, m.Params[0].Type
		return []api.Sig{{
			Name:    "m",
			Formals: []api.Formal{{Name: "$0", Bound: api.Type{Name: "G", Args: []api.Type{in(bound.Args[0])}, At: bound.At}, At: m.Formals[0].At}},
			Params:  []api.Param{{Type: api.Type{Name: "L", Args: []api.Type{{Name: "$0", At: list.Args[0].At}}, At: list.At}, At: m.Params[0].At}},
			Result:  in(m.Result), At: m.At,
		}, {Name: "n", Result: in(n.Result), At: n.At}}
	}
	x := table.New(p)
	interfaces, structs := want(p.Decls[0].Sigs[0], p.Decls[0].Sigs[1]), want(p.Decls[2].Sig, p.Decls[3].Sig)
	env := []api.Formal{{Name: "v", Bound: api.Type{Name: "I", Args: []api.Type{arg}, At: 103}, At: 104}}
	checkEqual(t, "Set(I)", Set(x, nil, of("I", arg)), interfaces)
	checkEqual(t, "Set(S)", Set(x, nil, of("S", arg)), structs)
	checkEqual(t, "Set(v)", Set(x, env, api.Type{Name: "v", At: 105}), interfaces)
	for i, m := range []string{"m", "n"} {
		for y, l := range map[string][]api.Sig{"I": interfaces, "S": structs} {
			s, _ := Find(x, nil, of(y, arg), m)
			checkEqual(t, "Find("+y+", "+m+")", s, l[i])
		}
		s, _ := Find(x, env, of("v"), m)
		checkEqual(t, "Find(v, "+m+")", s, interfaces[i])
	}
}

func TestFind(t *testing.T) {
	x := tableOf(t, sample)
	env := envOf(t, "v H, w v, E G[T]")
	for _, c := range []struct{ of, name, want string }{
		{"P[T, U]", "s", "s[$0 G[T]]( $0,  P[T, $0]) P[U, $0]"}, {"P[T, U]", "t", "t() T"}, {"P[T, U]", "v", "v() T"},
		{"P[T, U]", "u", ""}, {"P[T, U]", "m", ""}, {"P[T, U]", "l", ""}, {"P[T, U]", "", ""}, {"P[T, U]", "S", ""}, {"P[T, U]", "ss", ""}, {"P[T, U]", "z", ""},
		{"P[T]", "u", ""}, {"P", "v", ""}, {"Q", "v", ""}, {"unknown", "v", ""}, {"F", "v", ""},
		{"G[T]", "b", "b() Any"}, {"G[T]", "m", "m[$0 G[T]]( T,  $0) $0"}, {"G[T]", "n", "n() T"},
		{"G[T]", "a", ""}, {"G[T]", "c", ""}, {"G[T]", "mm", ""}, {"G[T]", "", ""}, {"G", "m", ""}, {"Any", "m", ""},
		{"H", "s", "s() F"}, {"H", "t", "t() v"}, {"v", "s", "s() F"}, {"v", "t", "t() v"}, {"v", "v", ""}, {"v[T]", "s", ""}, {"w", "s", ""},
		{"E", "v", ""}, {"E", "n", "n() T"}, {"E[T]", "n", ""},
	} {
		s, found := Find(x, env, typeOf(t, c.of), c.name)
		if found != (c.want != "") || found && print.Sig(s) != c.want {
			t.Errorf("Find(%s, %s) = %s, %t", c.of, c.name, print.Sig(s), found)
		}
		if !found {
			checkEqual(t, "Find("+c.of+", "+c.name+")", s, api.Sig{})
		}
	}
}

func TestNilTable(t *testing.T) {
	env := []api.Formal{formalOf("v", of("I")), formalOf("", of(""))}
	for _, x := range []*table.Table{nil, table.New(api.Program{})} {
		for _, y := range []api.Type{{}, of("v"), of("I"), of("T", of("T"))} {
			checkType(t, x, env, y)
			s, found := Find(x, env, y, "")
			if got := Set(x, env, y); len(got) != 0 || found {
				t.Errorf("Set(%s) = %s, and %s is found", shown(y), shown(got), shown(s))
			}
		}
	}
}

// Names may be empty in programs that are not right.
func TestEmptyNames(t *testing.T) {
	x := table.New(api.Program{Decls: []api.Decl{
		{Kind: api.Struct, Formals: []api.Formal{{}}},
		{Kind: api.Interface, Name: "I", Sigs: []api.Sig{named("m", of("")), named("", of("A"))}},
		{Kind: api.Method, Vars: []string{""}, Sig: named("n", of(""))},
		{Kind: api.Method, Vars: []string{""}, Sig: named("", of("B"))},
	}})
	env := []api.Formal{formalOf("", of("I"))}
	for _, c := range []struct {
		env  []api.Formal
		of   api.Type
		want string
	}{
		{nil, of("", of("T")), "() B;n() T;"}, {env, of("", of("T")), "() B;n() T;"}, {env, of("", api.Type{}), "() B;n() ;"},
		{nil, of("I"), "() A;m() ;"}, {env, api.Type{}, "() A;m() ;"}, {nil, api.Type{}, ""},
		{[]api.Formal{{}}, api.Type{}, ""}, {[]api.Formal{{Bound: of("", of(""))}}, api.Type{}, ""},
	} {
		if got := sigsText(Set(x, c.env, c.of)); got != c.want {
			t.Errorf("Set(%s, %s) = %s", shown(c.env), shown(c.of), got)
		}
		s, found := Find(x, c.env, c.of, "")
		if found != (c.want != "") || found && !strings.HasPrefix(c.want, print.Sig(s)+";") {
			t.Errorf("Find(%s, %s) = %s, %t", shown(c.env), shown(c.of), print.Sig(s), found)
		}
	}
}

func TestProgramsOfAllSorts(t *testing.T) {
	structs, interfaces, variables, hidden := 0, 0, 0, 0
	made(1500, func(p api.Program, env []api.Formal, l []api.Type) {
		x := table.New(p)
		for _, y := range l {
			checkType(t, x, env, y)
			set, bare := len(Set(x, env, y)), len(Set(x, nil, y))
			switch {
			case wantVariable(env, y) >= 0:
				variables += min(set, 1)
				hidden += min(bare, 1)
			case x.Kind(y.Name) == api.Struct:
				structs += max(set, 1) - 1
			default:
				interfaces += max(set, 1) - 1
			}
		}
		if t.Failed() {
			t.Fatal("with the program", shown(p))
		}
	})
	if least := min(structs, interfaces, variables, hidden); least < 200 {
		t.Error("there are too few of a sort:", structs, interfaces, variables, hidden)
	}
}

// P12.2

func TestCovers(t *testing.T) {
	for _, c := range []struct{ a, b, missing string }{
		{"", "", ""},
		{"m() T;", "", ""},
		{"", "m() T;", "m"},
		{"m() T;", "m() T;", ""},
		{"m() T; n() U;", "m() T;", ""},
		{"m() T; n() U;", "n() U;", ""},
		{"m() T; n() U;", "n() U; m() T;", ""},
		{"m() T;", "m() T; n() U;", "n"},
		{"n() U;", "m() T; n() U;", "m"},
		{"m() T;", "n() T;", "n"},
		{"m() T;", "M() T;", "M"},
		{"m() T;", "mm() T;", "mm"},
		{"mm() T;", "m() T;", "m"},
		// alike, or not
		{"m() T;", "m() U;", "m"},
		{"m() T[A];", "m() T;", "m"},
		{"m() T[A, B];", "m() T[B, A];", "m"},
		{"m(x T) T;", "m(y T) T;", ""},
		{"m(x T) T;", "m() T;", "m"},
		{"m() T;", "m(x T) T;", "m"},
		{"m(x T, y U) T;", "m(x T) T;", "m"},
		{"m(x T, y U) T;", "m(y T, x U) T;", ""},
		{"m(x T, y U) T;", "m(y U, x T) T;", "m"},
		{"m[a I](x a) a;", "m[b I](y b) b;", ""},
		{"m[a I](x a) a;", "m[a J](x a) a;", "m"},
		{"m[a I](x a) a;", "m[b I](x b) I;", "m"},
		{"m[a I](x T) T;", "m(x T) T;", "m"},
		{"m(x T) T;", "m[a I](x T) T;", "m"},
		{"m[a I, b J](x a) b;", "m[b I, a J](x b) a;", ""},
		{"m[a I, b J](x a) b;", "m[a J, b I](x a) b;", "m"},
		{"m[a I, b I](x a) b;", "m[a I, b I](x b) a;", "m"},
		{"m[a I[a], b J[a]](x a) b;", "m[c I[c], d J[c]](x c) d;", ""},
		{"m[a I[a], b J[a]](x a) b;", "m[c I[c], d J[d]](x c) d;", "m"},
		{"m[a I](x c) c;", "m[b I](y c) c;", ""},
		{"m[a I](x c) c;", "m[b I](y d) d;", "m"},
		// each signature of b counts
		{"m() T; n() T; o() T;", "m() T; n() U; o() T;", "n"},
		{"m() T; n() T; o() T;", "m() U; n() T; o() U;", "m o"},
		{"m() T; n() T; o() T;", "m() U; n() U; o() U; p() U;", "m n o p"},
		{"m() T; n() T; o() T;", "o() U; p() T; m() U; a() T; n() T;", "o p m a"},
		{"m() T;", "m() U; m() T;", "m"},
		{"m() T;", "m() T; m() U;", "m"},
		{"m() T;", "m() T; m() T;", ""},
		{"m() T;", "m() U; m() T; m() U;", "m m"},
		{"", "n() T; m() T; n() T;", "n m n"},
		// the first one of a counts
		{"m() T; m() U;", "m() T;", ""},
		{"m() T; m() U;", "m() U;", "m"},
		{"m() T; m() U;", "m() T; m() U;", "m"},
		{"m() U; m() T; m() U;", "m() T;", "m"},
		{"n() T; m() U; n() U; m() T;", "m() T; n() T;", "m"},
		{"n() T; m() U; n() U; m() T;", "m() U; n() U;", "n"},
		{"n() T; m() U; n() U; m() T;", "n() T; m() U;", ""},
		{"z() T; m() T; a() T; m() U; b() T;", "m() T; z() T; b() T; a() T;", ""},
	} {
		a, b := sigsOf(t, c.a), sigsOf(t, c.b)
		checkMissing(t, a, b, strings.Fields(c.missing))
		checkMissing(t, numbered(a, 100), numbered(b, 7), strings.Fields(c.missing))
	}
}

// Signatures need not be canonical, and local names may stand in them.
func TestCoversOddLists(t *testing.T) {
	zero, local := api.Sig{}, of("$0")
	generic := func(name string, bound, result api.Type) []api.Sig {
		return []api.Sig{{Formals: []api.Formal{formalOf(name, bound)}, Result: result}}
	}
	for _, c := range []struct {
		a, b    []api.Sig
		missing []string
	}{
		{nil, []api.Sig{zero}, []string{""}},
		{[]api.Sig{zero}, []api.Sig{zero}, nil},
		{[]api.Sig{zero}, []api.Sig{zero, named("", of("T"))}, []string{""}},
		{[]api.Sig{named("m", of("")), zero}, []api.Sig{zero}, nil},
		{[]api.Sig{named("\xff", of("T"))}, []api.Sig{named("\xfe", of("T")), named("\xff", of("T"))}, []string{"\xfe"}},
		{generic("a", of("I"), of("a")), generic("$0", of("I"), local), nil},
		{generic("a", of("I"), of("a")), generic("b", of("I"), local), nil},
		{generic("a", of("a"), of("T")), generic("", of(""), of("T")), nil},
		{generic("a", of("a"), of("T")), generic("b", of("a"), of("T")), []string{""}},
		{generic("a", of("I"), of("a")), generic("a", of("I"), of("a", of("T"))), []string{""}},
		{generic("a", of("I"), of("a")), []api.Sig{named("", local)}, []string{""}},
	} {
		checkMissing(t, c.a, c.b, c.missing)
	}
}

func TestListsOfAllSorts(t *testing.T) {
	covered, some := 0, 0
	for i := range 5000 {
		m := &maker{number: uint64(i)}
		a, b := upTo(m, 40, m.simpleSig), upTo(m, 8, m.simpleSig)
		if m.below(2) == 0 {
			for j := range b {
				if at := wantFirst(a, b[j].Name); at >= 0 {
					b[j] = numbered(a[at], i)
				}
			}
		}
		want := wantMissing(a, b)
		checkMissing(t, a, b, want)
		if len(a) > 20 && len(b) > 2 {
			covered += 1 - min(len(want), 1)
			some += min(len(want), len(b)-len(want), 1)
		}
	}
	if covered < 50 || some < 500 {
		t.Error("there are only", covered, some)
	}
}

// Covers and Missing of method sets tell what implements what.
func TestCoversOfSets(t *testing.T) {
	x := tableOf(t, "type I[a Any] interface { n() a; m[b I[b]](x b) a; }; type J[a Any] interface { m[c I[c]](z c) a; }; type Any interface {}; "+
		"type S[a Any] struct {}; func (s S[x]) z() x { return s }; func (s S[x]) m[c I[c]](y c) x { return s }; func (s S[x]) n() x { return s }; "+
		"type R struct {}; func (r R) n() T { return r }; func (r R) m[c I[c]](y c) U { return r };")
	env := envOf(t, "v I[T], w I[v], S Any")
	for _, c := range []struct{ a, b, missing string }{
		{"S[T]", "I[T]", ""}, {"S[T]", "J[T]", ""}, {"I[T]", "J[T]", ""}, {"S[T]", "Any", ""}, {"Any", "Any", ""}, {"T", "Any", ""}, {"S", "Any", ""},
		{"S[T]", "I[U]", "m n"}, {"I[T]", "S[T]", "z"}, {"J[T]", "I[T]", "n"}, {"Any", "I[T]", "m n"}, {"S", "I[T]", "m n"}, {"S[T, T]", "J[T]", "m"},
		{"R", "I[T]", "m"}, {"R", "I[U]", "n"}, {"R", "J[U]", ""}, {"R", "S[T]", "m z"}, {"R", "S[R]", "m n z"},
		{"v", "I[T]", ""}, {"v", "J[T]", ""}, {"I[T]", "v", ""}, {"v", "I[v]", "m n"}, {"w", "I[v]", ""}, {"w", "v", "m n"}, {"v", "S[T]", "z"},
	} {
		checkMissing(t, Set(x, env, typeOf(t, c.a)), Set(x, env, typeOf(t, c.b)), strings.Fields(c.missing))
	}
}

// P12.3

func TestSetsCoverThemselves(t *testing.T) {
	x := tableOf(t, sample)
	for _, text := range []string{"P[T, U]", "P[v, w]", "E", "F", "G[T]", "G[G[v]]", "H", "Any", "Q", "v", "w", "u"} {
		checkCoversItself(t, Set(x, envOf(t, "v H, w G[v], u E"), typeOf(t, text)))
	}
	made(1500, func(p api.Program, env []api.Formal, l []api.Type) {
		x := table.New(p)
		for _, y := range l {
			checkCoversItself(t, Set(x, env, y))
		}
	})
}

// Programs may have Formals, and Args, with local names.
func TestSetsWithLocalNames(t *testing.T) {
	s := api.Sig{Name: "m", Formals: []api.Formal{formalOf("c", of("c"))}, Params: []api.Param{paramOf("x", of("a"))}, Result: of("$0")}
	for _, formal := range []string{"a", "$0", "$1"} {
		formals := []api.Formal{formalOf(formal, of("A"))}
		x := table.New(api.Program{Decls: []api.Decl{
			{Kind: api.Interface, Name: "I", Formals: formals, Sigs: []api.Sig{s}},
			{Kind: api.Struct, Name: "S", Formals: formals},
			{Kind: api.Method, Name: "S", Vars: []string{formal}, Sig: s},
		}})
		for _, arg := range []string{"$0", "$1", "c", "x", ""} {
			env := []api.Formal{formalOf("$0", of("I", of(arg)))}
			for _, y := range []api.Type{of("I", of(arg)), of("S", of(arg)), of("$0")} {
				checkType(t, x, env, y)
				if got := Set(x, env, y); len(got) != 1 || got[0].Formals[0].Name != "$0" || got[0].Params[0].Name != "" {
					t.Errorf("Set(%s) = %s", shown(y), sigsText(got))
				}
			}
		}
	}
}

// What is returned shares no memory.

// arguments are those of all functions.
type arguments struct {
	Program                     api.Program
	Env                         []api.Formal
	Struct, Interface, Variable api.Type
	A, B                        []api.Sig
}

// allArguments returns arguments for all functions, with unused capacity.
func allArguments(t *testing.T) *arguments {
	t.Helper()
	deep := of("L", of("M", of("c")), of("N"))
	g := arguments{
		Program:   programOf(t, sample),
		Env:       []api.Formal{formalOf("w", deep), formalOf("v", of("G", deep))},
		Struct:    of("P", deep, deep),
		Interface: of("G", deep),
		Variable:  of("v"),
		A:         sigsOf(t, "n[a I[a, P[b]], b J[K]](x L[a, b]) Map[a, c, List[b]]; m() T[U]; n() U; a(x T[U], y T) U; b() T;"),
		B:         sigsOf(t, "n[c I[c, P[d]], d J[K]](y L[c, d]) Map[c, c, List[d]]; m() T[T]; n() U; a(x T[U], y U) U; b() T;"),
	}
	g = rebuilt(numbered(g, 0), 3)
	return &g
}

// results are the functions with results that have memory.
var results = map[string]func(x *table.Table, g *arguments) any{
	"Set of a struct":        func(x *table.Table, g *arguments) any { l := Set(x, g.Env, g.Struct); return &l },
	"Set of an interface":    func(x *table.Table, g *arguments) any { l := Set(x, g.Env, g.Interface); return &l },
	"Set of a variable":      func(x *table.Table, g *arguments) any { l := Set(x, g.Env, g.Variable); return &l },
	"Find of a struct":       func(x *table.Table, g *arguments) any { s, _ := Find(x, g.Env, g.Struct, "s"); return &s },
	"Find of an interface":   func(x *table.Table, g *arguments) any { s, _ := Find(x, g.Env, g.Interface, "m"); return &s },
	"Find of a variable":     func(x *table.Table, g *arguments) any { s, _ := Find(x, g.Env, g.Variable, "m"); return &s },
	"Find of what isn't":     func(x *table.Table, g *arguments) any { s, _ := Find(x, g.Env, g.Variable, "q"); return &s },
	"Missing":                func(x *table.Table, g *arguments) any { l := Missing(g.A, g.B); return &l },
	"Missing of nothing":     func(x *table.Table, g *arguments) any { l := Missing(nil, g.B); return &l },
	"Missing of itself":      func(x *table.Table, g *arguments) any { l := Missing(g.A, g.A); return &l },
	"Missing of part of one": func(x *table.Table, g *arguments) any { l := Missing(g.A, g.A[1:3]); return &l },
}

// allShown returns all results for g.
func allShown(x *table.Table, g *arguments) string {
	l := []string{strconv.FormatBool(Covers(g.A, g.B)), strconv.FormatBool(Covers(g.A, g.A)), strconv.FormatBool(Covers(g.A, g.A[:2]))}
	for what, call := range results {
		l = append(l, what+shown(rebuilt(reflect.ValueOf(call(x, g)).Elem().Interface(), 0)))
	}
	slices.Sort(l)
	return strings.Join(l, "\n")
}

func TestArgumentsStayAsTheyAre(t *testing.T) {
	g := allArguments(t)
	x := table.New(g.Program)
	before, program := shown(*g), shown(rebuilt(x.Program(), 0))
	want := allShown(x, g)
	if after := shown(*g); after != before {
		t.Errorf("%s is %s then", before, after)
	}
	if after := shown(rebuilt(x.Program(), 0)); after != program {
		t.Errorf("the table of %s is that of %s then", program, after)
	}
	if got := allShown(x, g); got != want {
		t.Errorf("%s is %s then", want, got)
	}
}

func TestNoMemoryIsShared(t *testing.T) {
	for what, call := range results {
		g := allArguments(t)
		x := table.New(g.Program)
		before, want := shown(*g), allShown(x, g)
		result, other := call(x, g), call(x, g)
		wantOther := shown(reflect.ValueOf(other).Elem().Interface())
		checkFresh(t, what, result)
		spoil(result)
		if after := shown(*g); after != before {
			t.Errorf("%s: when the result changes, %s is %s", what, before, after)
		}
		if got := allShown(x, g); got != want {
			t.Errorf("%s: when the result changes, %s is %s", what, want, got)
		}
		spoil(g)
		if got := shown(reflect.ValueOf(other).Elem().Interface()); got != wantOther {
			t.Errorf("%s: when all else changes, %s is %s", what, wantOther, got)
		}
	}
}

// The lists of the program, the environment and the type may share memory.
func TestNoMemoryIsSharedWhereTheArgumentsShare(t *testing.T) {
	l := []api.Type{of("L", of("a"))}
	f := []api.Formal{formalOf("a", of("I", l...)), formalOf("b", of("I", l...))}
	s := api.Sig{Name: "n", Formals: f, Params: []api.Param{paramOf("x", of("L", l...)), paramOf("y", of("a"))}, Result: of("L", l...)}
	m := s
	m.Name = "m"
	p := api.Program{Decls: []api.Decl{
		{Kind: api.Struct, Name: "S", Formals: f},
		{Kind: api.Interface, Name: "I", Formals: f, Sigs: []api.Sig{s, m}},
		{Kind: api.Method, Name: "S", Vars: []string{"a", "b"}, Sig: s},
		{Kind: api.Method, Name: "S", Vars: []string{"a", "b"}, Sig: m},
	}}
	before := shown(p)
	x, env := table.New(p), []api.Formal{formalOf("v", of("I", of("T", l...), of("T", l...)))}
	for _, y := range []api.Type{of("S", of("T", l...), of("T", l...)), env[0].Bound, of("v")} {
		set := Set(x, env, y)
		found, _ := Find(x, env, y, "m")
		if len(set) != 2 || found.Name != "m" {
			t.Error("something is missing")
		}
		checkFresh(t, "Set", &set)
		checkFresh(t, "Find", &found)
	}
	if shown(p) != before {
		t.Error("the program is changed")
	}
}

// Programs and lists of many parts.

// manySigs returns n signatures, the Names of which are not in order.
func manySigs(n int) []api.Sig {
	var l []api.Sig
	for i := range n {
		l = append(l, named("m"+strconv.Itoa(i*7919%n), of("T"+strconv.Itoa(i))))
	}
	return l
}

func TestManyMethods(t *testing.T) {
	sigs := manySigs(many)
	p := api.Program{Decls: []api.Decl{{Kind: api.Struct, Name: "S"}, {Kind: api.Interface, Name: "I", Sigs: sigs}}}
	for _, s := range sigs {
		p.Decls = append(p.Decls, api.Decl{Kind: api.Method, Name: "S", Sig: s})
	}
	x, env := table.New(p), []api.Formal{formalOf("v", of("I"))}
	for _, y := range []string{"S", "I", "v"} {
		l := Set(x, env, of(y))
		if len(l) != many {
			t.Fatal("there are", len(l), "signatures of", y)
		}
		for i := range l[1:] {
			if l[i].Name >= l[i+1].Name {
				t.Fatal("the order is wrong at", i, "of", y)
			}
		}
		for i := 0; i < many; i += many / 8 {
			s, found := Find(x, env, of(y), sigs[i].Name)
			if !found || !types.Same(s.Result, sigs[i].Result) {
				t.Error("what is found is wrong at", i, "of", y)
			}
		}
		checkCovered(t, l, sigs)
	}
}

// checkCovered checks that two lists cover each other, until one differs.
func checkCovered(t *testing.T, a, b []api.Sig) {
	t.Helper()
	if !Covers(a, b) || !Covers(b, a) || len(Missing(a, b)) != 0 || len(Missing(b, a)) != 0 {
		t.Error("the lists do not cover each other")
	}
	last := len(a) - 1
	if got := Missing(a[:last], b); Covers(a[:last], b) || len(got) != 1 || got[0] != a[last].Name {
		t.Error("too few signatures cover the list, but for", got)
	}
	other := slices.Concat([]api.Sig{named(a[last].Name, of("other"))}, a)
	if got := Missing(other, b); Covers(other, b) || len(got) != 1 || got[0] != a[last].Name {
		t.Error("other signatures cover the list, but for", got)
	}
	if got := Missing(nil, b); Covers(nil, b) || len(got) != len(b) || got[0] != b[0].Name || got[last] != b[last].Name {
		t.Error("there are", len(got), "missing")
	}
}

func TestTheDeepestTypes(t *testing.T) {
	deep := of("a")
	for range many/2 - 1 {
		deep = of("L", deep)
	}
	s := api.Sig{Name: "m", Formals: []api.Formal{formalOf("b", deep)}, Params: []api.Param{paramOf("x", deep)}, Result: deep}
	formals := []api.Formal{formalOf("a", deep)}
	x := table.New(api.Program{Decls: []api.Decl{
		{Kind: api.Struct, Name: "S", Formals: formals},
		{Kind: api.Interface, Name: "I", Formals: formals, Sigs: []api.Sig{s}},
		{Kind: api.Method, Name: "S", Vars: []string{"a"}, Sig: s},
	}})
	env := []api.Formal{formalOf("v", of("I", deep))}
	structs, interfaces, variables := Set(x, env, of("S", deep)), Set(x, env, of("I", deep)), Set(x, env, of("v"))
	for _, l := range [][]api.Sig{structs, interfaces, variables} {
		if len(l) != 1 || types.Depth(l[0].Result) != many-1 || types.Depth(l[0].Formals[0].Bound) != many-1 {
			t.Fatal("a method set is wrong")
		}
	}
	if !Covers(structs, interfaces) || !Covers(interfaces, variables) || !Covers(variables, structs) || Covers(structs, []api.Sig{s}) {
		t.Error("deep signatures are compared wrong")
	}
	if _, found := Find(x, env, of("v"), "m"); !found {
		t.Error("nothing is found")
	}
}

// A long environment is gone through from its start.
func TestManyFormals(t *testing.T) {
	var env []api.Formal
	for i := range many {
		env = append(env, formalOf("v"+strconv.Itoa(i), of([...]string{"I", "J", "S"}[i%3])))
	}
	env = append(env, formalOf("v0", of("J")))
	x := tableOf(t, "type I interface { m() T; }; type J interface { n() T; }; type S struct {}; func (s S) m() T { return s };")
	for i := 0; i < many; i += many/8 + 1 {
		want := [...]string{"m() T;", "n() T;", ""}[i%3]
		if got := sigsText(Set(x, env, of("v"+strconv.Itoa(i)))); got != want {
			t.Error("the method set is", got, "at", i)
		}
	}
	if got := sigsText(Set(x, env, api.Type{Name: "S", At: math.MaxInt})); got != "m() T;" {
		t.Error(got)
	}
}

// Rule 8: the functions may be called concurrently.
func TestConcurrentCalls(t *testing.T) {
	g := allArguments(t)
	want := allShown(table.New(g.Program), g)
	var done sync.WaitGroup
	for range 8 {
		done.Go(func() {
			x := table.New(g.Program)
			for range 20 {
				if allShown(x, g) != want {
					t.Error("a concurrent call went wrong")
					return
				}
			}
		})
	}
	done.Wait()
}

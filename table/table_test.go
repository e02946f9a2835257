package table

import (
	"math"
	"reflect"
	"slices"
	"strconv"
	"strings"
	"sync"
	"testing"

	"castings/api"
	"castings/parse"
	"castings/print"
	"castings/types"
)

// many is the greatest number of parts of a type.
const many = 1 << 16

// of returns a type.
func of(name string, args ...api.Type) api.Type {
	return api.Type{Name: name, Args: args}
}

func formalOf(name string, bound api.Type) api.Formal {
	return api.Formal{Name: name, Bound: bound}
}

func paramOf(name string, t api.Type) api.Param {
	return api.Param{Name: name, Type: t}
}

// programOf returns the program with the declarations of a text.
func programOf(t *testing.T, decls string) api.Program {
	t.Helper()
	p, err := parse.Program("package main; " + decls + " func main() { _ = x }")
	if err != nil {
		t.Fatal(decls, err)
	}
	return p
}

// tableOf returns the table of the program with the declarations of a text.
func tableOf(t *testing.T, decls string) *Table {
	t.Helper()
	return New(programOf(t, decls))
}

// typeOf returns the type that a text is of.
func typeOf(t *testing.T, text string) api.Type {
	t.Helper()
	d, err := parse.Decl("type X struct { f " + text + "; };")
	if err != nil {
		t.Fatal(text, err)
	}
	return d.Fields[0].Type
}

// fieldsText returns the text of fields: a A, b B.
func fieldsText(l []api.Param) string {
	var texts []string
	for _, f := range l {
		texts = append(texts, f.Name+" "+types.Text(f.Type))
	}
	return strings.Join(texts, ", ")
}

// sigsText returns the texts of signatures, with a semicolon behind each.
func sigsText(l []api.Sig) string {
	text := ""
	for _, s := range l {
		text += print.Sig(s) + ";"
	}
	return text
}

// rebuilt returns a copy of v in new memory, made without the package, in which
// each list has some unused capacity, filled with what can be recognised. Its
// empty lists are nil, if there is none.
func rebuilt[T any](v T, room int) T {
	return rebuiltValue(reflect.ValueOf(v), room).Interface().(T)
}

func rebuiltValue(v reflect.Value, room int) reflect.Value {
	fresh := reflect.New(v.Type()).Elem()
	switch v.Kind() {
	case reflect.Struct:
		for i := range v.NumField() {
			fresh.Field(i).Set(rebuiltValue(v.Field(i), room))
		}
	case reflect.Slice:
		if v.Len()+room == 0 {
			return fresh
		}
		fresh.Set(reflect.MakeSlice(v.Type(), v.Len()+room, v.Len()+room))
		for i := range v.Len() {
			fresh.Index(i).Set(rebuiltValue(v.Index(i), room))
		}
		for i := range room {
			write(fresh.Index(v.Len()+i), "unused", 70)
		}
		fresh.SetLen(v.Len())
	default:
		fresh.Set(v)
	}
	return fresh
}

// write writes over all strings and numbers in v.
func write(v reflect.Value, text string, number int) {
	eachCell(v, func(cell reflect.Value) {
		if cell.Kind() == reflect.String {
			cell.SetString(text)
		} else {
			cell.SetInt(int64(number))
		}
	})
}

// eachCell calls do with each string and each number in v, those in the unused
// capacity of lists included.
func eachCell(v reflect.Value, do func(cell reflect.Value)) {
	switch v.Kind() {
	case reflect.Struct:
		for i := range v.NumField() {
			eachCell(v.Field(i), do)
		}
	case reflect.Slice:
		for i := range v.Cap() {
			eachCell(v.Slice(0, v.Cap()).Index(i), do)
		}
	default:
		do(v)
	}
}

// numbered returns a copy of v whose offsets are the numbers behind last.
func numbered[T any](v T, last int) T {
	fresh := rebuilt(v, 0)
	numberAt(reflect.ValueOf(&fresh).Elem(), &last)
	return fresh
}

// numberAt numbers the fields At in v: the Kinds stay.
func numberAt(v reflect.Value, last *int) {
	switch v.Kind() {
	case reflect.Struct:
		for i := range v.NumField() {
			if v.Type().Field(i).Name == "At" {
				*last++
				v.Field(i).SetInt(int64(*last))
			} else {
				numberAt(v.Field(i), last)
			}
		}
	case reflect.Slice:
		for i := range v.Len() {
			numberAt(v.Index(i), last)
		}
	}
}

// shown returns all that v consists of, and what stands in the unused capacity
// of its lists. A nil and an empty list are shown alike.
func shown(v any) string {
	var text strings.Builder
	show(&text, reflect.ValueOf(v))
	return text.String()
}

func show(text *strings.Builder, v reflect.Value) {
	switch v.Kind() {
	case reflect.Struct:
		text.WriteString("{")
		for i := range v.NumField() {
			show(text, v.Field(i))
		}
		text.WriteString("}")
	case reflect.Slice:
		text.WriteString("[")
		for i := range v.Cap() {
			if i == v.Len() {
				text.WriteString("|")
			}
			show(text, v.Slice(0, v.Cap()).Index(i))
		}
		text.WriteString("]")
	case reflect.String:
		text.WriteString(strconv.Quote(v.String()))
	case reflect.Bool:
		text.WriteString(strconv.FormatBool(v.Bool()))
	default:
		text.WriteString(" " + strconv.FormatInt(v.Int(), 10) + " ")
	}
}

// same reports whether a and b are the same in all fields, At included.
func same[T any](a, b T) bool {
	return shown(rebuilt(a, 0)) == shown(rebuilt(b, 0))
}

// checkEqual checks that got is want in all fields, At included.
func checkEqual[T any](t *testing.T, what string, got, want T) {
	t.Helper()
	if !same(got, want) {
		t.Errorf("%s = %.500s, want %.500s", what, shown(rebuilt(got, 0)), shown(rebuilt(want, 0)))
	}
}

// spoil writes over all that v points to.
func spoil(v any) {
	write(reflect.ValueOf(v).Elem(), "spoilt", -70)
}

// checkFresh checks that no two lists in what v points to share memory: all is
// written over, and then read again.
func checkFresh(t *testing.T, what string, v any) {
	t.Helper()
	count, next := 0, 0
	eachCell(reflect.ValueOf(v).Elem(), func(cell reflect.Value) {
		write(cell, strconv.Itoa(count), count)
		count++
	})
	eachCell(reflect.ValueOf(v).Elem(), func(cell reflect.Value) {
		if cell.Kind() == reflect.String && cell.String() != strconv.Itoa(next) || cell.Kind() == reflect.Int && cell.Int() != int64(next) {
			t.Errorf("%s: part %d shares memory with another one", what, next)
		}
		next++
	})
}

// maker makes programs, most of which are not right. They depend on the number
// that it begins with.
type maker struct{ number uint64 }

// below returns a number from 0 to n - 1.
func (m *maker) below(n int) int {
	m.number = m.number*6364136223846793005 + 1442695040888963407
	return int(m.number>>33) % n
}

// few returns from no items to three.
func few[T any](m *maker, item func() T) []T {
	var l []T
	for range [6]int{0, 0, 1, 2, 2, 3}[m.below(6)] {
		l = append(l, item())
	}
	return l
}

// madeNames are the names in programs that are made.
var madeNames = [...]string{"a", "a", "b", "b", "T", "$0", ""}

func (m *maker) name() string { return madeNames[m.below(len(madeNames))] }

func (m *maker) typ() api.Type {
	t := api.Type{Name: m.name(), At: m.below(99)}
	if m.below(3) == 0 {
		t.Args = few(m, m.typ)
	}
	return t
}

func (m *maker) formal() api.Formal {
	return api.Formal{Name: m.name(), Bound: m.typ(), At: m.below(99)}
}

func (m *maker) param() api.Param {
	return api.Param{Name: m.name(), Type: m.typ(), At: m.below(99)}
}

func (m *maker) sig() api.Sig {
	return api.Sig{Name: m.name(), Formals: few(m, m.formal), Params: few(m, m.param), Result: m.typ(), At: m.below(99)}
}

func (m *maker) expr() api.Expr {
	e := api.Expr{Kind: m.below(7), Name: m.name(), Type: m.typ(), Targs: few(m, m.typ), At: m.below(99)}
	if m.below(3) == 0 {
		e.Kids = few(m, m.expr)
	}
	return e
}

// decl returns a declaration with all fields, whatever its Kind is.
func (m *maker) decl() api.Decl {
	kinds := [...]int{1, 1, 2, 2, 3, 3, 3, 3, 3, 0, 4, -1}
	return api.Decl{
		Kind: kinds[m.below(len(kinds))], Name: m.name(), Formals: few(m, m.formal), Fields: few(m, m.param), Sigs: few(m, m.sig),
		Recv: m.name(), Vars: few(m, m.name), Sig: m.sig(), Body: m.expr(), At: m.below(99),
	}
}

func (m *maker) program() api.Program {
	return api.Program{Decls: append(few(m, m.decl), slices.Concat(few(m, m.decl), few(m, m.decl))...), Main: m.expr()}
}

// made calls do with n programs, and types with each name that may stand in
// them and each number of Args.
func made(n int, do func(p api.Program, l []api.Type)) {
	for i := range n {
		m := &maker{number: uint64(i)}
		p := m.program()
		var l []api.Type
		for _, s := range append(madeNames[1:], "unknown") {
			for count := range 4 {
				x := api.Type{Name: s, At: m.below(99)}
				for range count {
					x.Args = append(x.Args, m.typ())
				}
				l = append(l, x)
			}
		}
		do(p, l)
	}
}

// What the chapter says, in its order.

// wantDecl returns the declaration of a type; a zero one, if there is none.
func wantDecl(p api.Program, name string) api.Decl {
	for _, d := range p.Decls {
		if (d.Kind == 1 || d.Kind == 2) && d.Name == name {
			return d
		}
	}
	return api.Decl{}
}

// wantMethodDecl returns the declaration of a method of a struct, and its index
// in the program; a zero one and -1, if there is none.
func wantMethodDecl(p api.Program, name, m string) (api.Decl, int) {
	for i, d := range p.Decls {
		if d.Kind == 3 && d.Name == name && d.Sig.Name == m {
			return d, i
		}
	}
	return api.Decl{}, -1
}

// wantInstance reports whether x is an instance of a declaration of the kind.
func wantInstance(p api.Program, x api.Type, kind int) bool {
	d := wantDecl(p, x.Name)
	return d.Kind == kind && len(x.Args) == len(d.Formals)
}

// wantType returns t with the args in place of the names, as layer 4 tells.
func wantType(t api.Type, names []string, args []api.Type) api.Type {
	if i := slices.Index(names, t.Name); len(t.Args) == 0 && 0 <= i && i < len(args) {
		return api.Type{Name: args[i].Name, Args: args[i].Args, At: t.At}
	}
	fresh := api.Type{Name: t.Name, At: t.At}
	for _, arg := range t.Args {
		fresh.Args = append(fresh.Args, wantType(arg, names, args))
	}
	return fresh
}

func wantParams(l []api.Param, names []string, args []api.Type) []api.Param {
	var fresh []api.Param
	for _, p := range l {
		fresh = append(fresh, api.Param{Name: p.Name, Type: wantType(p.Type, names, args), At: p.At})
	}
	return fresh
}

// wantSubst returns s with the args in place of the names, as layer 10 tells.
func wantSubst(s api.Sig, names []string, args []api.Type) api.Sig {
	fresh := api.Sig{Name: s.Name, Params: wantParams(s.Params, names, args), Result: wantType(s.Result, names, args), At: s.At}
	for _, f := range s.Formals {
		fresh.Formals = append(fresh.Formals, api.Formal{Name: f.Name, Bound: wantType(f.Bound, names, args), At: f.At})
	}
	return fresh
}

// wantNames returns the Names of formals.
func wantNames(l []api.Formal) []string {
	var names []string
	for i := range l {
		names = append(names, l[i].Name)
	}
	return names
}

// wantCanon returns the canonical signature of s.
func wantCanon(s api.Sig) api.Sig {
	var locals []api.Type
	for i := range s.Formals {
		locals = append(locals, of("$"+strconv.Itoa(i)))
	}
	fresh := wantSubst(s, wantNames(s.Formals), locals)
	for i := range fresh.Formals {
		fresh.Formals[i].Name = "$" + strconv.Itoa(i)
	}
	for i := range fresh.Params {
		fresh.Params[i].Name = ""
	}
	return fresh
}

// wantFields returns the fields of an instance of a struct.
func wantFields(p api.Program, x api.Type) []api.Param {
	d := wantDecl(p, x.Name)
	return wantParams(d.Fields, wantNames(d.Formals), x.Args)
}

// wantSpecs returns the specifications of an instance of an interface.
func wantSpecs(p api.Program, x api.Type) []api.Sig {
	d := wantDecl(p, x.Name)
	var l []api.Sig
	for i, s := range d.Sigs {
		if slices.IndexFunc(d.Sigs, func(other api.Sig) bool { return other.Name == s.Name }) == i {
			l = append(l, wantSubst(wantCanon(s), wantNames(d.Formals), x.Args))
		}
	}
	return l
}

// wantMethods returns the signatures of the methods of an instance of a struct.
func wantMethods(p api.Program, x api.Type) []api.Sig {
	var l []api.Sig
	for i, d := range p.Decls {
		if _, first := wantMethodDecl(p, x.Name, d.Sig.Name); first == i && len(d.Vars) == len(x.Args) {
			l = append(l, wantSubst(wantCanon(d.Sig), d.Vars, x.Args))
		}
	}
	return l
}

// checkTable compares all that x tells of the types of l, and of the names in
// programs that are made, with what the chapter says.
func checkTable(t *testing.T, x *Table, p api.Program, l []api.Type) {
	t.Helper()
	checkEqual(t, "Program", x.Program(), p)
	for _, y := range l {
		what := "(" + shown(y) + ")"
		d := wantDecl(p, y.Name)
		if got := x.Kind(y.Name); got != d.Kind {
			t.Errorf("Kind%s = %d", what, got)
		}
		checkEqual(t, "Formals"+what, x.Formals(y.Name), d.Formals)
		isStruct, isInterface := wantInstance(p, y, 1), wantInstance(p, y, 2)
		var fields []api.Param
		var specs, methods []api.Sig
		if isStruct {
			fields, methods = wantFields(p, y), wantMethods(p, y)
		}
		if isInterface {
			specs = wantSpecs(p, y)
		}
		gotFields, ok := x.Fields(y)
		checkEqual(t, "Fields"+what, gotFields, fields)
		checkEqual(t, "the bool of Fields"+what, ok, isStruct)
		gotSpecs, ok := x.Specs(y)
		checkEqual(t, "Specs"+what, gotSpecs, specs)
		checkEqual(t, "the bool of Specs"+what, ok, isInterface)
		checkEqual(t, "Methods"+what, x.Methods(y), methods)
		for _, m := range append(madeNames[1:], "unknown") {
			want, at := wantMethodDecl(p, y.Name, m)
			has := isStruct && at >= 0 && len(want.Vars) == len(y.Args)
			if !has {
				want = api.Decl{}
			}
			got, ok := x.Method(y, m)
			checkEqual(t, "Method "+m+what, got, want)
			checkEqual(t, "the bool of Method "+m+what, ok, has)
		}
	}
	if t.Failed() {
		t.Fatal("with the program", shown(p))
	}
}

// sample has declarations of all sorts, with more than one of some Names.
const sample = "type Any interface {}; " +
	"type P[a Any, b G[a]] struct { l a; r P[b, a]; }; " +
	"type P struct { x Any; }; " +
	"type P[a Any, b Any] interface { m() a; }; " +
	"type G[a Any] interface { m[c G[a]](x a, y c) c; n() a; m() a; }; " +
	"type G struct { x Any; }; " +
	"type E struct {}; " +
	"func (p P[x, y]) s[c G[x]](z c, z P[x, c]) P[y, c] { return p.r }; " +
	"func (p P[x, y]) s() Any { return p }; " +
	"func (p P[x]) u() Any { return p }; " +
	"func (p P[x, y]) u() Any { return p }; " +
	"func (p P[y, x]) v() y { return p.l }; " +
	"func (p P[x, y]) a() E { return E{} }; " +
	"func (g G[x]) m() x { return g }; " +
	"func (g G) m() Any { return g }; " +
	"func (e E) v(x E) Any { return e }; " +
	"func (q Q) v() Any { return q };"

// P11.1

func TestProgram(t *testing.T) {
	for _, decls := range []string{"", "type T struct {};", sample} {
		p := programOf(t, decls)
		checkEqual(t, "Program of "+decls, New(p).Program(), p)
		numbers := numbered(p, -9)
		checkEqual(t, "Program of "+decls+" with other offsets", New(numbers).Program(), numbers)
	}
	p := api.Program{Decls: []api.Decl{{}, {Kind: 9, Name: "T"}, {}}, Main: api.Expr{Kind: 7, Kids: []api.Expr{{}}, At: math.MinInt}}
	checkEqual(t, "Program of an odd one", New(p).Program(), p)
	checkEqual(t, "Program of a zero one", New(api.Program{}).Program(), api.Program{})
}

func TestKind(t *testing.T) {
	x := tableOf(t, sample)
	for s, want := range map[string]int{
		"Any": api.Interface, "P": api.Struct, "G": api.Interface, "E": api.Struct,
		// no type has these names
		"Q": 0, "": 0, "a": 0, "s": 0, "x": 0, "l": 0, "p": 0, "e": 0, "any": 0, "An": 0, "Any ": 0, "P[a, b]": 0, "$0": 0, "main": 0,
	} {
		if got := x.Kind(s); got != want {
			t.Errorf("Kind(%q) = %d", s, got)
		}
	}
}

func TestTheFirstDeclarationOfATypeCounts(t *testing.T) {
	for text, want := range map[string]int{
		"type T struct {}; type T interface {};":                                                  api.Struct,
		"type T interface {}; type T struct {};":                                                  api.Interface,
		"type T interface { m() T; }; type T interface {};":                                       api.Interface,
		"func (x T) m() T { return x }; type T interface {}; type T struct {};":                   api.Interface,
		"func (x T) m() T { return x }; type U interface {}; type T struct {};":                   api.Struct,
		"func (x T) m() T { return x };":                                                          0,
		"func (x T) T() T { return x };":                                                          0,
		"type U interface { T() T; }; type V[T U] struct { T T; };":                               0,
		"type T[a T] struct {}; type T struct {}; type T interface {};":                           api.Struct,
		"type V struct {}; type U struct {}; type T interface {}; func (x T) m() T { return x };": api.Interface,
	} {
		if got := tableOf(t, text).Kind("T"); got != want {
			t.Errorf("Kind(T) = %d in %s", got, text)
		}
	}
}

// Only structs, interfaces and methods declare something.
func TestDeclarationsOfOtherKinds(t *testing.T) {
	for _, kind := range []int{0, 4, 5, -1, -3, math.MaxInt, math.MinInt} {
		odd := api.Decl{Kind: kind, Name: "T", Formals: []api.Formal{formalOf("a", of("T"))}, Sig: api.Sig{Name: "m"}}
		x := New(api.Program{Decls: []api.Decl{odd}})
		if got := x.Kind("T"); got != 0 || len(x.Formals("T")) != 0 {
			t.Errorf("Kind(T) = %d for the Kind %d", got, kind)
		}
		method := api.Decl{Kind: api.Method, Name: "T", Recv: "x", Sig: api.Sig{Name: "m", Result: of("R")}}
		x = New(api.Program{Decls: []api.Decl{odd, {Kind: api.Struct, Name: "T"}, method}})
		if got := x.Kind("T"); got != api.Struct || len(x.Formals("T")) != 0 {
			t.Errorf("Kind(T) = %d behind the Kind %d", got, kind)
		}
		got, ok := x.Method(of("T"), "m")
		checkEqual(t, "Method behind another Kind", got, method)
		if sigs := sigsText(x.Methods(of("T"))); !ok || sigs != "m() R;" {
			t.Errorf("Methods(T) = %s behind the Kind %d", sigs, kind)
		}
	}
}

func TestFormals(t *testing.T) {
	x := tableOf(t, "type S[a I[a, P[b]], b J, a K[c]] struct { x a; }; type I[d I[d]] interface { m[e J]() d; }; type N struct {}; type S[x I] struct {}; type I struct {}; type M interface {}; func (r R[v]) m[f J]() v { return r };")
	for s, want := range map[string]string{"S": "a I[a, P[b]], b J, a K[c]", "I": "d I[d]", "N": "", "M": "", "R": "", "Q": "", "": "", "a": "", "m": ""} {
		var texts []string
		for _, f := range x.Formals(s) {
			texts = append(texts, f.Name+" "+types.Text(f.Bound))
		}
		if got := strings.Join(texts, ", "); got != want {
			t.Errorf("Formals(%q) = %s", s, got)
		}
	}
}

func TestFormalsAreAsDeclared(t *testing.T) {
	for _, kind := range []int{api.Struct, api.Interface} {
		formals := numbered([]api.Formal{formalOf("a", of("I", of("a"), of("b", of("c")))), {}, formalOf("$0", of("\xff"))}, -4)
		x := New(api.Program{Decls: []api.Decl{{Kind: api.Method, Name: "T", Formals: formals[1:]}, {Kind: kind, Name: "T", Formals: formals}}})
		checkEqual(t, "Formals", x.Formals("T"), formals)
	}
}

// P11.2

func TestFields(t *testing.T) {
	x := tableOf(t, "type P[a Any] struct { l a; }; "+
		"type Q[a Any, b Any] struct { l a; r Q[b, a]; n U; d M[a, L[b, a], a]; }; "+
		"type E struct {}; type N struct { e E; f a; e P[a]; }; "+
		"type D[a Any, a Any] struct { x a; }; "+
		"type F[a Any] struct { x a[a]; y b; a L[a]; z F[F[a]]; }; "+
		"type W[a Any] struct {};")
	for text, want := range map[string]string{
		"P[T]":             "l T",
		"P[a]":             "l a",
		"P[P[a]]":          "l P[a]",
		"P[L[T, M[U]]]":    "l L[T, M[U]]",
		"Q[T, U]":          "l T, r Q[U, T], n U, d M[T, L[U, T], T]",
		"Q[b, a]":          "l b, r Q[a, b], n U, d M[b, L[a, b], b]", // at once
		"Q[L[b], M[a, b]]": "l L[b], r Q[M[a, b], L[b]], n U, d M[L[b], L[M[a, b], L[b]], L[b]]",
		"E":                "",
		"N":                "e E, f a, e P[a]",
		"D[T, U]":          "x T", // the first one counts
		"F[T]":             "x a[T], y b, a L[T], z F[F[T]]",
		"W[T]":             "",
	} {
		if got, ok := x.Fields(typeOf(t, text)); !ok || fieldsText(got) != want {
			t.Errorf("Fields(%s) = %s, %t", text, fieldsText(got), ok)
		}
	}
}

func TestFieldsOfOtherTypes(t *testing.T) {
	x := tableOf(t, sample)
	for _, text := range []string{"P", "P[E]", "P[E, E, E]", "P[P[E, E]]", "E[E]", "Any", "Any[E]", "G", "G[E]", "G[E, E]", "Q", "Q[E]", "a", "x", "s", "v"} {
		if got, ok := x.Fields(typeOf(t, text)); ok || len(got) != 0 {
			t.Errorf("Fields(%s) = %s, %t", text, fieldsText(got), ok)
		}
	}
	for _, y := range []api.Type{{}, of("P[E, E]"), of("", of("E"), of("E")), of("$0"), of("E", api.Type{})} {
		if got, ok := x.Fields(y); ok || len(got) != 0 {
			t.Errorf("Fields(%s) = %s, %t", shown(y), fieldsText(got), ok)
		}
	}
}

// The offsets are those of the declaration, but those within Args are theirs.
func TestOffsetsOfFields(t *testing.T) {
	fields := []api.Param{{Name: "l", Type: api.Type{Name: "a", At: 3}, At: 4}, {Name: "r", Type: api.Type{Name: "L", Args: []api.Type{{Name: "a", At: 5}}, At: 6}, At: 7}}
	x := New(api.Program{Decls: []api.Decl{{Kind: api.Struct, Name: "P", Formals: []api.Formal{{Name: "a", At: 1}}, Fields: fields, At: 2}}})
	got, ok := x.Fields(api.Type{Name: "P", Args: []api.Type{{Name: "T", Args: []api.Type{{Name: "U", At: 11}}, At: 12}}, At: 13})
	arg := []api.Type{{Name: "U", At: 11}}
	checkEqual(t, "Fields", got, []api.Param{
		{Name: "l", Type: api.Type{Name: "T", Args: arg, At: 3}, At: 4},
		{Name: "r", Type: api.Type{Name: "L", Args: []api.Type{{Name: "T", Args: arg, At: 5}}, At: 6}, At: 7},
	})
	if !ok {
		t.Error("there are no fields")
	}
}

func TestSpecs(t *testing.T) {
	x := tableOf(t, "type Any interface {}; "+
		"type F[a Any] interface { m[c Any](x a, y c) c; n() a; m() a; }; "+
		"type O interface { z() T; b(x O) a; c() O; z() U; b() U; a(x O, y O) b; c(x O) O; }; "+
		"type H[a Any, b F[a]] interface { h[a G[a, b], c G[c, d]](a a, b b) M[a, b, c, d]; k(x b, y L[a]) b; }; "+
		"type D[a Any, a Any] interface { m() a; }; "+
		"type W[a Any] interface {}; "+
		"type C[a Any] interface { m[a G[a]](x a) a; m[b G[a]](x a) b; }; "+
		"type B[a Any] interface { a(x a[a]) L[a]; };")
	for text, want := range map[string]string{
		"Any":        "",
		"F[c]":       "m[$0 Any]( c,  $0) $0;n() c;",
		"F[a]":       "m[$0 Any]( a,  $0) $0;n() a;",
		"F[F[T]]":    "m[$0 Any]( F[T],  $0) $0;n() F[T];",
		"O":          "z() T;b( O) a;c() O;a( O,  O) b;",
		"H[T, U]":    "h[$0 G[$0, U], $1 G[$1, d]]( $0,  U) M[$0, U, $1, d];k( U,  L[T]) U;",
		"H[b, a]":    "h[$0 G[$0, a], $1 G[$1, d]]( $0,  a) M[$0, a, $1, d];k( a,  L[b]) a;",
		"H[c, L[d]]": "h[$0 G[$0, L[d]], $1 G[$1, d]]( $0,  L[d]) M[$0, L[d], $1, d];k( L[d],  L[c]) L[d];",
		"D[T, U]":    "m() T;", // the first one counts
		"W[T]":       "",
		"C[T]":       "m[$0 G[$0]]( $0) $0;", // the Formals of a signature hide those of the interface
		"B[T]":       "a( a[T]) L[T];",
	} {
		if got, ok := x.Specs(typeOf(t, text)); !ok || sigsText(got) != want {
			t.Errorf("Specs(%s) = %s, %t", text, sigsText(got), ok)
		}
	}
}

func TestSpecsOfOtherTypes(t *testing.T) {
	x := tableOf(t, sample)
	for _, text := range []string{"Any[E]", "Any[E, E]", "G", "G[E, E]", "G[G[E], E]", "P", "P[E]", "P[E, E]", "E", "E[E]", "Q", "a", "m", "s"} {
		if got, ok := x.Specs(typeOf(t, text)); ok || len(got) != 0 {
			t.Errorf("Specs(%s) = %s, %t", text, sigsText(got), ok)
		}
	}
	for _, y := range []api.Type{{}, of("G[E]"), of("", of("E")), of("$0"), of("Any", api.Type{})} {
		if got, ok := x.Specs(y); ok || len(got) != 0 {
			t.Errorf("Specs(%s) = %s, %t", shown(y), sigsText(got), ok)
		}
	}
}

func TestOffsetsOfSpecs(t *testing.T) {
	d := numbered(programOf(t, "type G[a Any] interface { m[c G[a]](x a, y L[c, a]) c; n() a; };"), 0).Decls[0]
	u := []api.Type{{Name: "U", At: 101}}
	got, ok := New(api.Program{Decls: []api.Decl{d}}).Specs(of("G", api.Type{Name: "T", Args: u, At: 102}))
	m, n := d.Sigs[0], d.Sigs[1]
	in := func(x api.Type) api.Type { return api.Type{Name: "T", Args: u, At: x.At} }
	local := func(x api.Type) api.Type { return api.Type{Name: "$0", At: x.At} }
	bound, list := m.Formals[0].Bound, m.Params[1].Type
	want := []api.Sig{
		{
			Name:    "m",
			Formals: []api.Formal{{Name: "$0", Bound: api.Type{Name: "G", Args: []api.Type{in(bound.Args[0])}, At: bound.At}, At: m.Formals[0].At}},
			Params: []api.Param{
				{Type: in(m.Params[0].Type), At: m.Params[0].At},
				{Type: api.Type{Name: "L", Args: []api.Type{local(list.Args[0]), in(list.Args[1])}, At: list.At}, At: m.Params[1].At},
			},
			Result: local(m.Result), At: m.At,
		},
		{Name: "n", Result: in(n.Result), At: n.At},
	}
	checkEqual(t, "Specs", got, want)
	if !ok {
		t.Error("there are no specifications")
	}
}

// Formals of an interface may have local names in programs that are not right:
// the Args are put into signatures that are canonical already.
func TestSpecsWithLocalNames(t *testing.T) {
	m := api.Sig{Name: "m", Formals: []api.Formal{formalOf("c", of("c"))}, Params: []api.Param{paramOf("x", of("$0")), paramOf("y", of("c"))}, Result: of("$1")}
	x := New(api.Program{Decls: []api.Decl{{Kind: api.Interface, Name: "I", Formals: []api.Formal{formalOf("$0", of("A"))}, Sigs: []api.Sig{m}}}})
	if got, ok := x.Specs(of("I", of("T"))); !ok || sigsText(got) != "m[$0 T]( T,  T) $1;" {
		t.Errorf("Specs(I[T]) = %s, %t", sigsText(got), ok)
	}
	y := New(api.Program{Decls: []api.Decl{{Kind: api.Interface, Name: "I", Formals: []api.Formal{formalOf("a", of("A"))}, Sigs: []api.Sig{m}}}})
	if got, ok := y.Specs(of("I", of("T"))); !ok || sigsText(got) != "m[$0 $0]( $0,  $0) $1;" {
		t.Errorf("Specs(I[T]) = %s, %t", sigsText(got), ok)
	}
}

// P11.3

func TestMethod(t *testing.T) {
	p := numbered(programOf(t, sample), 5)
	x := New(p)
	for _, c := range []struct {
		typ, method string
		decl        int
	}{
		{"P[E, E]", "s", 7}, {"P[a, b]", "s", 7}, {"P[P[E, E], Q]", "v", 11}, {"P[E, E]", "a", 12}, {"E", "v", 15},
	} {
		got, ok := x.Method(typeOf(t, c.typ), c.method)
		checkEqual(t, "the method "+c.method+" of "+c.typ, got, p.Decls[c.decl])
		if !ok {
			t.Errorf("%s has no method %s", c.typ, c.method)
		}
	}
}

func TestNoMethod(t *testing.T) {
	x := tableOf(t, sample)
	for _, c := range [][2]string{
		{"P[E, E]", "u"},                                              // the first u has one variable
		{"P[E]", "u"},                                                 // but this is no instance
		{"P[E]", "s"}, {"P", "s"}, {"P[E, E, E]", "s"}, {"E[E]", "v"}, // no instances
		{"G[E]", "m"}, {"G", "m"}, {"Any", "m"}, // no structs
		{"Q", "v"}, // no type
		{"P[E, E]", "w"}, {"P[E, E]", ""}, {"P[E, E]", "P"}, {"P[E, E]", "m"}, {"P[E, E]", "l"}, {"P[E, E]", "S"}, {"P[E, E]", "s "},
		{"E", "s"}, {"E", "E"}, {"E", "e"}, {"x", "s"},
	} {
		got, ok := x.Method(typeOf(t, c[0]), c[1])
		checkEqual(t, "the method "+c[1]+" of "+c[0], got, api.Decl{})
		if ok {
			t.Errorf("%s has a method %s", c[0], c[1])
		}
	}
	for _, y := range []api.Type{{}, of("P[E, E]"), of("", of("E"), of("E")), of("E", api.Type{})} {
		if got, ok := x.Method(y, "v"); ok || !same(got, api.Decl{}) {
			t.Errorf("%s has a method", shown(y))
		}
	}
}

func TestMethods(t *testing.T) {
	x := tableOf(t, sample+
		"type S[a Any, b Any] struct {}; "+
		"func (x S[b, a]) m(y a, z b) M[a, b] { return x }; "+
		"func (x S[c, d]) n[c G[c, d, a]](y c) L[d] { return x }; "+
		"func (x S[d, d]) k() d { return x }; "+
		"func (x S[e, f]) h(y e[f]) e[e] { return x }; "+
		"func (x S) g() S { return x }; "+
		"func (x S[a, b, c]) f() S { return x }; "+
		"func (x S[a, b]) f() S { return x }; "+
		"func (y S[a, b]) b[a A, b B[a], c C[b]](a b, c d) c { return x };")
	for text, want := range map[string]string{
		"P[T, U]":    "s[$0 G[T]]( $0,  P[T, $0]) P[U, $0];v() T;a() E;",
		"P[y, x]":    "s[$0 G[y]]( $0,  P[y, $0]) P[x, $0];v() y;a() E;",
		"P[c, L[c]]": "s[$0 G[c]]( $0,  P[c, $0]) P[L[c], $0];v() c;a() E;",
		"E":          "v( E) Any;",
		"S[T, U]":    "m( U,  T) M[U, T];n[$0 G[$0, U, a]]( $0) L[U];k() T;h( e[U]) e[T];b[$0 A, $1 B[$0], $2 C[$1]]( $1,  d) $2;",
		"S[a, b]":    "m( b,  a) M[b, a];n[$0 G[$0, b, a]]( $0) L[b];k() a;h( e[b]) e[a];b[$0 A, $1 B[$0], $2 C[$1]]( $1,  d) $2;",
	} {
		if got := sigsText(x.Methods(typeOf(t, text))); got != want {
			t.Errorf("Methods(%s) = %s", text, got)
		}
	}
}

func TestMethodsOfOtherTypes(t *testing.T) {
	x := tableOf(t, sample+"type N struct {}; type L[a Any] struct {};")
	for _, text := range []string{"P", "P[E]", "P[E, E, E]", "E[E]", "G", "G[E]", "Any", "Any[E]", "Q", "Q[E]", "N", "N[E]", "L", "L[E]", "x", "s"} {
		if got := x.Methods(typeOf(t, text)); len(got) != 0 {
			t.Errorf("Methods(%s) = %s", text, sigsText(got))
		}
	}
	for _, y := range []api.Type{{}, of("P[E, E]"), of("", of("E"), of("E")), of("E", api.Type{})} {
		if got := x.Methods(y); len(got) != 0 {
			t.Errorf("Methods(%s) = %s", shown(y), sigsText(got))
		}
	}
}

// The order is that of the declarations, wherever that of the type stands.
func TestOrderOfMethods(t *testing.T) {
	x := tableOf(t, "func (x T) z() T { return x }; func (x U) y() T { return x }; type U struct {}; func (x T) a() T { return x }; type T struct {}; func (x T) b() T { return x }; func (x T) z() U { return x }; func (x U) a() T { return x }; func (x T) A() T { return x };")
	if got := sigsText(x.Methods(of("T"))); got != "z() T;a() T;b() T;A() T;" {
		t.Error(got)
	}
	if got := sigsText(x.Methods(of("U"))); got != "y() T;a() T;" {
		t.Error(got)
	}
}

// The first method with a Name counts, even if it is no method of the instance.
func TestTheFirstMethodCounts(t *testing.T) {
	for text, want := range map[string]string{
		"func (x S[a]) m() A { return x }; func (x S[a]) m() B { return x };":                                      "m() A;",
		"func (x S) m() A { return x }; func (x S[a]) m() B { return x };":                                         "",
		"func (x S[a, b]) m() A { return x }; func (x S[a]) m() B { return x }; func (x S[a]) n() C { return x };": "n() C;",
		"func (x R[a]) m() A { return x }; func (x S[a]) m() B { return x };":                                      "m() B;",
		"func (x S[a]) n() A { return x }; func (x S[a]) m() B { return x };":                                      "n() A;m() B;",
	} {
		x := tableOf(t, text+" type S[a A] struct {}; type S interface { m() Z; }; type R interface {};")
		y := typeOf(t, "S[T]")
		if got := sigsText(x.Methods(y)); got != want {
			t.Errorf("Methods(S[T]) = %s with %s", got, text)
		}
		got, ok := x.Method(y, "m")
		if ok != strings.Contains(want, "m() ") || ok && !strings.Contains(want, print.Sig(got.Sig)+";") {
			t.Errorf("the method m is %s with %s", print.Sig(got.Sig), text)
		}
	}
}

func TestOffsetsOfMethods(t *testing.T) {
	p := numbered(programOf(t, "type S[a Any] struct {}; func (s S[b]) m[c G[b]](x b, y L[c]) b { return s };"), 0)
	s := p.Decls[1].Sig
	u := []api.Type{{Name: "U", At: 101}}
	in := func(x api.Type) api.Type { return api.Type{Name: "T", Args: u, At: x.At} }
	bound, list := s.Formals[0].Bound, s.Params[1].Type
	checkEqual(t, "Methods", New(p).Methods(of("S", api.Type{Name: "T", Args: u, At: 102})), []api.Sig{{
		Name:    "m",
		Formals: []api.Formal{{Name: "$0", Bound: api.Type{Name: "G", Args: []api.Type{in(bound.Args[0])}, At: bound.At}, At: s.Formals[0].At}},
		Params: []api.Param{
			{Type: in(s.Params[0].Type), At: s.Params[0].At},
			{Type: api.Type{Name: "L", Args: []api.Type{{Name: "$0", At: list.Args[0].At}}, At: list.At}, At: s.Params[1].At},
		},
		Result: in(s.Result), At: s.At,
	}})
}

// Vars may have local names in programs that are not right: the Args are put
// into signatures that are canonical already.
func TestMethodsWithLocalNames(t *testing.T) {
	m := api.Decl{Kind: api.Method, Name: "S", Recv: "s", Vars: []string{"$0"}, Sig: api.Sig{Name: "m", Formals: []api.Formal{formalOf("c", of("c"))}, Result: of("$0")}}
	x := New(api.Program{Decls: []api.Decl{{Kind: api.Struct, Name: "S", Formals: []api.Formal{formalOf("a", of("A"))}}, m}})
	if got := sigsText(x.Methods(of("S", of("T")))); got != "m[$0 T]() T;" {
		t.Error(got)
	}
}

// Any Name may be empty in programs that are not right, and a method may be
// named like a type: types and methods are told from each other.
func TestEmptyNames(t *testing.T) {
	structs := []api.Decl{{Kind: api.Struct, Fields: []api.Param{paramOf("", of(""))}}, {Kind: api.Struct, Name: "T"}}
	methods := []api.Decl{{Kind: api.Method, Sig: api.Sig{Result: of("A")}}, {Kind: api.Method, Name: "T", Sig: api.Sig{Result: of("B")}}, {Kind: api.Method, Sig: api.Sig{Name: "T", Result: of("C")}}}
	for _, decls := range [][]api.Decl{slices.Concat(structs, methods), slices.Concat(methods, structs)} {
		p := api.Program{Decls: decls}
		checkTable(t, New(p), p, []api.Type{{}, of("T"), of("", api.Type{}), of("T", api.Type{}), of("A")})
		if got := sigsText(New(p).Methods(api.Type{})); got != "() A;T() C;" {
			t.Error(got)
		}
	}
	onlyMethods := New(api.Program{Decls: methods})
	if got, ok := onlyMethods.Method(api.Type{}, ""); ok || onlyMethods.Kind("") != 0 {
		t.Error(shown(got), onlyMethods.Kind(""))
	}
	onlyStructs := New(api.Program{Decls: structs})
	for _, y := range []api.Type{{}, of("T")} {
		if got, ok := onlyStructs.Method(y, ""); ok || !same(got, api.Decl{}) || len(onlyStructs.Methods(y)) != 0 {
			t.Error(shown(got))
		}
	}
}

// All promises

func TestProgramsOfAllSorts(t *testing.T) {
	made(1500, func(p api.Program, l []api.Type) { checkTable(t, New(p), p, l) })
	p := programOf(t, sample)
	var l []api.Type
	for _, s := range []string{"Any", "P", "G", "E", "Q", "a", "x"} {
		l = append(l, of(s), of(s, of("a")), of(s, of("y", of("x")), of("x")), of(s, of("c"), of("c"), of("c")))
	}
	checkTable(t, New(p), p, l)
}

func TestNilTable(t *testing.T) {
	var none *Table
	l := []api.Type{{}, of("T"), of("P", of("E"), of("E")), of("", api.Type{})}
	checkTable(t, none, api.Program{}, l)
	checkTable(t, New(api.Program{}), api.Program{}, l)
	if New(api.Program{}) == nil {
		t.Error("the table of a zero program is nil")
	}
}

// A table tells the same however often it is asked, and in whatever order.
func TestRepeatedCalls(t *testing.T) {
	made(100, func(p api.Program, l []api.Type) {
		x := New(p)
		for range 2 {
			checkTable(t, x, p, l)
			slices.Reverse(l)
		}
	})
}

// What is returned shares no memory.

// results are the functions with results that have memory.
var results = map[string]func(x *Table) any{
	"Program": func(x *Table) any { p := x.Program(); return &p },
	"Formals": func(x *Table) any { l := x.Formals("P"); return &l },
	"Fields":  func(x *Table) any { l, _ := x.Fields(asked); return &l },
	"Specs":   func(x *Table) any { l, _ := x.Specs(askedInterface); return &l },
	"Method":  func(x *Table) any { d, _ := x.Method(asked, "s"); return &d },
	"Methods": func(x *Table) any { l := x.Methods(asked); return &l },
}

// asked and askedInterface have Args in places that P and G of sample use.
var (
	asked          = rebuilt(numbered(of("P", of("L", of("M", of("c")), of("N")), of("L", of("x"))), 900), 3)
	askedInterface = rebuilt(numbered(of("G", of("L", of("M", of("c")), of("N"))), 950), 3)
)

// allShown returns all results of x.
func allShown(x *Table) string {
	var l []string
	for what, call := range results {
		l = append(l, what+shown(rebuilt(reflect.ValueOf(call(x)).Elem().Interface(), 0)))
	}
	slices.Sort(l)
	return strings.Join(l, "\n")
}

// sharingProgram returns the program of sample, with Args in more of its types
// and unused capacity in its lists.
func sharingProgram(t *testing.T) api.Program {
	t.Helper()
	p := programOf(t, sample)
	list := of("L", of("x"), of("K", of("y")))
	p.Decls[1].Fields = append(p.Decls[1].Fields, paramOf("x", list), paramOf("y", list))
	p.Decls[4].Sigs[1].Params = []api.Param{paramOf("x", list), paramOf("y", list)}
	p.Decls[11].Sig.Params = []api.Param{paramOf("x", list), paramOf("y", list)}
	p.Decls[7].Body = api.Expr{Kind: api.Call, Name: "m", Targs: []api.Type{list, list}, Kids: []api.Expr{{Kind: api.Lit, Type: list}, {Kind: api.Assert, Type: list, Kids: []api.Expr{{Kind: api.Var, Name: "x"}}}}}
	return rebuilt(numbered(rebuilt(p, 0), 0), 3)
}

func TestTheTableKeepsNoMemoryOfTheProgram(t *testing.T) {
	p := sharingProgram(t)
	before := shown(p)
	x := New(p)
	want := allShown(x)
	if after := shown(p); after != before {
		t.Errorf("%s is %s then", before, after)
	}
	spoil(&p)
	if got := allShown(x); got != want {
		t.Errorf("when the program changes, %s is %s", want, got)
	}
}

func TestArgumentsStayAsTheyAre(t *testing.T) {
	x := New(sharingProgram(t))
	before := shown(asked) + shown(askedInterface)
	want := allShown(x)
	if after := shown(asked) + shown(askedInterface); after != before {
		t.Errorf("%s is %s then", before, after)
	}
	if got := allShown(x); got != want {
		t.Errorf("%s is %s then", want, got)
	}
}

func TestResultsShareNoMemory(t *testing.T) {
	for what, call := range results {
		x := New(sharingProgram(t))
		want := allShown(x)
		before := shown(asked) + shown(askedInterface)
		result, other := call(x), call(x)
		wantOther := shown(reflect.ValueOf(other).Elem().Interface())
		checkFresh(t, what, result)
		spoil(result)
		if after := shown(asked) + shown(askedInterface); after != before {
			t.Fatalf("%s: when the result changes, the argument %s is %s", what, before, after)
		}
		if got := shown(reflect.ValueOf(other).Elem().Interface()); got != wantOther {
			t.Errorf("%s: when the result changes, another result is %s", what, got)
		}
		if got := allShown(x); got != want {
			t.Errorf("%s: when the result changes, the table has %s", what, got)
		}
	}
}

func TestResultsKeepNoMemoryOfTypes(t *testing.T) {
	x := New(sharingProgram(t))
	y, z := rebuilt(asked, 2), rebuilt(askedInterface, 2)
	fields, _ := x.Fields(y)
	specs, _ := x.Specs(z)
	methods := x.Methods(y)
	want := shown(fields) + shown(specs) + shown(methods)
	spoil(&y)
	spoil(&z)
	if got := shown(fields) + shown(specs) + shown(methods); got != want {
		t.Errorf("when the types change, %s is %s", want, got)
	}
}

// The lists of the program, and those of a type, may share memory themselves.
func TestNoMemoryIsSharedWhereTheArgumentsShare(t *testing.T) {
	l := []api.Type{of("L", of("a"))}
	f := []api.Formal{formalOf("a", of("I", l...)), formalOf("b", of("I", l...))}
	ps := []api.Param{paramOf("x", of("L", l...)), paramOf("y", of("a"))}
	s := api.Sig{Name: "m", Formals: f, Params: ps, Result: of("L", l...)}
	n := s
	n.Name = "n"
	p := api.Program{Decls: []api.Decl{
		{Kind: api.Struct, Name: "P", Formals: f, Fields: ps},
		{Kind: api.Interface, Name: "G", Formals: f, Sigs: []api.Sig{s, n}},
		{Kind: api.Method, Name: "P", Vars: []string{"a", "b"}, Sig: s},
		{Kind: api.Method, Name: "P", Vars: []string{"a", "b"}, Sig: n},
	}}
	x := New(p)
	want := shown(rebuilt(p, 0))
	fields, isStruct := x.Fields(of("P", of("T", l...), of("T", l...)))
	specs, isInterface := x.Specs(of("G", of("T", l...), of("T", l...)))
	methods, formals, program := x.Methods(of("P", of("T", l...), of("T", l...))), x.Formals("P"), x.Program()
	d, found := x.Method(of("P", of("T", l...), of("T", l...)), "m")
	if !isStruct || !isInterface || !found || len(fields) != 2 || len(specs) != 2 || len(methods) != 2 || len(formals) != 2 {
		t.Error("something is missing")
	}
	for what, v := range map[string]any{"Fields": &fields, "Specs": &specs, "Methods": &methods, "Formals": &formals, "Program": &program, "Method": &d} {
		checkFresh(t, what, v)
	}
	if got := shown(rebuilt(x.Program(), 0)); got != want || shown(rebuilt(p, 0)) != want {
		t.Error("the program is changed")
	}
}

// Programs of many parts.

// numberedName returns a name with a number.
func numberedName(s string, i int) string { return s + strconv.Itoa(i) }

func TestManyDeclarations(t *testing.T) {
	var p api.Program
	for i := range many {
		s := numberedName("T", i)
		p.Decls = append(p.Decls,
			api.Decl{Kind: 1 + i%2, Name: s, At: i},
			api.Decl{Kind: api.Struct, Name: s, Formals: []api.Formal{formalOf("a", of("A"))}},
			api.Decl{Kind: api.Method, Name: s, Sig: api.Sig{Name: numberedName("m", i)}, At: i},
			api.Decl{Kind: api.Method, Name: "T0", Sig: api.Sig{Name: s}, At: i})
	}
	x := New(p)
	for i := range many {
		s, m := numberedName("T", i), numberedName("m", i)
		d, found := x.Method(of(s), m)
		other, foundOther := x.Method(of("T0"), s)
		if x.Kind(s) != 1+i%2 || len(x.Formals(s)) != 0 || found != (i%2 == 0) || found && (d.At != i || d.Sig.Name != m) || !foundOther || other.At != i {
			t.Fatal("the declarations are wrong at", i)
		}
		if i > 0 && len(x.Methods(of(s))) != 1-i%2 {
			t.Fatal("the methods are wrong at", i)
		}
	}
	l := x.Methods(of("T0"))
	if len(l) != many+1 || l[0].Name != "m0" || l[1].Name != "T0" || l[many].Name != numberedName("T", many-1) {
		t.Error("there are", len(l), "methods")
	}
}

// An interface with many Formals and many Sigs, and a struct with as many
// fields.
func TestManyFormals(t *testing.T) {
	var formals []api.Formal
	var fields []api.Param
	var sigs []api.Sig
	var args []api.Type
	for i := range many {
		v := numberedName("a", i)
		formals = append(formals, formalOf(v, of("A")))
		fields = append(fields, paramOf("f", of("L", of(v))))
		sigs = append(sigs, api.Sig{Name: numberedName("m", i), Params: []api.Param{paramOf("x", of(v))}, Result: of("L", of(v))}, api.Sig{Name: "m0"})
		args = append(args, of(numberedName("T", i)))
	}
	x := New(api.Program{Decls: []api.Decl{
		{Kind: api.Struct, Name: "S", Formals: formals, Fields: fields},
		{Kind: api.Interface, Name: "I", Formals: formals, Sigs: sigs},
	}})
	gotFields, isStruct := x.Fields(of("S", args...))
	specs, isInterface := x.Specs(of("I", args...))
	if !isStruct || !isInterface || len(gotFields) != many || len(specs) != many || len(x.Formals("I")) != many {
		t.Fatal(isStruct, isInterface, len(gotFields), len(specs))
	}
	for i := range many {
		s := numberedName("T", i)
		if types.Text(gotFields[i].Type) != "L["+s+"]" || print.Sig(specs[i]) != numberedName("m", i)+"( "+s+") L["+s+"]" {
			t.Fatal("the types are wrong at", i)
		}
	}
	if _, ok := x.Fields(of("S", args[1:]...)); ok {
		t.Error("there is one type too few")
	}
}

// spine returns a type of the depth: a in L in L and so on.
func spine(depth int, a api.Type) api.Type {
	for range depth - 1 {
		a = of("L", a)
	}
	return a
}

func TestTheDeepestTypes(t *testing.T) {
	deep := spine(many/2, of("a"))
	s := api.Sig{Name: "m", Formals: []api.Formal{formalOf("b", deep)}, Params: []api.Param{paramOf("x", deep)}, Result: deep}
	formals := []api.Formal{formalOf("a", deep)}
	x := New(api.Program{Decls: []api.Decl{
		{Kind: api.Struct, Name: "S", Formals: formals, Fields: []api.Param{paramOf("x", deep)}},
		{Kind: api.Interface, Name: "I", Formals: formals, Sigs: []api.Sig{s}},
		{Kind: api.Method, Name: "S", Vars: []string{"a"}, Sig: s},
	}})
	arg, want := spine(many/2, of("T")), many-1
	fields, _ := x.Fields(of("S", arg))
	specs, _ := x.Specs(of("I", arg))
	methods := x.Methods(of("S", arg))
	d, ok := x.Method(of("S", arg), "m")
	if len(fields) != 1 || len(specs) != 1 || len(methods) != 1 || !ok {
		t.Fatal("something is missing")
	}
	for _, y := range []api.Type{fields[0].Type, specs[0].Result, specs[0].Formals[0].Bound, methods[0].Params[0].Type, methods[0].Result} {
		if types.Depth(y) != want {
			t.Error("a type has the depth", types.Depth(y))
		}
	}
	if types.Depth(d.Sig.Result) != many/2 || types.Depth(x.Formals("S")[0].Bound) != many/2 {
		t.Error("what is declared is as deep as an instance")
	}
}

// Rule 8: the functions may be called concurrently.
func TestConcurrentCalls(t *testing.T) {
	p := sharingProgram(t)
	want := allShown(New(p))
	var done sync.WaitGroup
	for range 8 {
		done.Go(func() {
			x := New(p)
			for range 20 {
				if allShown(x) != want {
					t.Error("a concurrent call went wrong")
					return
				}
			}
		})
	}
	done.Wait()
}

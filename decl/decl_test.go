package decl

import (
	"math"
	"reflect"
	"slices"
	"strconv"
	"strings"
	"sync"
	"testing"

	"castings/api"
	"castings/types"
)

// most is the greatest number of parts of a program.
const most = 1 << 16

// of returns a type.
func of(name string, args ...api.Type) api.Type {
	return api.Type{Name: name, Args: args}
}

// list returns types without Args.
func list(names ...string) []api.Type {
	var l []api.Type
	for _, s := range names {
		l = append(l, of(s))
	}
	return l
}

func formal(name string, bound api.Type) api.Formal {
	return api.Formal{Name: name, Bound: bound}
}

func param(name string, t api.Type) api.Param {
	return api.Param{Name: name, Type: t}
}

func variable(name string) api.Expr {
	return api.Expr{Kind: api.Var, Name: name}
}

func call(name string, targs []api.Type, kids ...api.Expr) api.Expr {
	return api.Expr{Kind: api.Call, Name: name, Targs: targs, Kids: kids}
}

func lit(t api.Type, kids ...api.Expr) api.Expr {
	return api.Expr{Kind: api.Lit, Type: t, Kids: kids}
}

func field(kid api.Expr, name string) api.Expr {
	return api.Expr{Kind: api.Field, Name: name, Kids: []api.Expr{kid}}
}

func assert(kid api.Expr, t api.Type) api.Expr {
	return api.Expr{Kind: api.Assert, Type: t, Kids: []api.Expr{kid}}
}

func structure(name string, formals []api.Formal, fields ...api.Param) api.Decl {
	return api.Decl{Kind: api.Struct, Name: name, Formals: formals, Fields: fields}
}

func iface(name string, formals []api.Formal, sigs ...api.Sig) api.Decl {
	return api.Decl{Kind: api.Interface, Name: name, Formals: formals, Sigs: sigs}
}

func method(name string, vars []string, sig api.Sig, body api.Expr) api.Decl {
	return api.Decl{Kind: api.Method, Name: name, Recv: "this", Vars: vars, Sig: sig, Body: body}
}

func program(main api.Expr, decls ...api.Decl) api.Program {
	return api.Program{Decls: decls, Main: main}
}

// chain returns a right expression of so many parts, each the only Kid of the
// one around it.
func chain(length int) api.Expr {
	e := variable("x")
	for range length - 1 {
		e = field(e, "f")
	}
	return e
}

// sig is m[a I[a], b Any](x a, y F[b]) R.
func sig() api.Sig {
	return api.Sig{
		Name:    "m",
		Formals: []api.Formal{formal("a", of("I", of("a"))), formal("b", of("Any"))},
		Params:  []api.Param{param("x", of("a")), param("y", of("F", of("b")))},
		Result:  of("R"),
	}
}

// bare is n() T, a signature without anything.
func bare() api.Sig {
	return api.Sig{Name: "n", Result: of("T")}
}

// sample returns a right program with declarations of all kinds.
func sample() api.Program {
	body := call("m", []api.Type{of("Ba"), of("Bb", of("c"))}, field(variable("this"), "l"), lit(of("Bc")), assert(variable("x"), of("Bd")))
	main := assert(call("n", list("Ma"), lit(of("Mb", of("Mc")), lit(of("Md")))), of("Me", of("Mf"), of("Mg")))
	return program(main,
		structure("S", []api.Formal{formal("c", of("Sa", of("d"))), formal("d", of("Sb"))}, param("l", of("Sc", of("c"), of("d"))), param("r", of("Sd"))),
		iface("I", []api.Formal{formal("e", of("Ia"))}, sig(), bare()),
		method("S", []string{"c", "d"}, sig(), body))
}

// full returns a declaration, which is not right, all of whose fields are set.
func full() api.Decl {
	d := method("M", []string{"v", "w"}, sig(), call("n", list("Ba"), assert(variable("x"), of("Bb", of("c")))))
	d.Formals = []api.Formal{formal("c", of("Ca", of("d"))), formal("d", of("Cb"))}
	d.Fields = []api.Param{param("l", of("Fa", of("c"))), param("r", of("Fb"))}
	d.Sigs = []api.Sig{sig(), bare()}
	return d
}

// rebuilt returns a copy of v in new memory, made without the package, in which
// each list has some unused capacity, filled with what can be recognised. Its
// empty lists are nil, if there is none.
func rebuilt[T any](v T, room int) T {
	return rebuiltValue(reflect.ValueOf(v), room).Interface().(T)
}

func rebuiltValue(v reflect.Value, room int) reflect.Value {
	fresh := reflect.New(v.Type()).Elem()
	switch v.Kind() {
	case reflect.Struct:
		for i := range v.NumField() {
			fresh.Field(i).Set(rebuiltValue(v.Field(i), room))
		}
	case reflect.Slice:
		if v.Len()+room == 0 {
			return fresh
		}
		fresh.Set(reflect.MakeSlice(v.Type(), v.Len()+room, v.Len()+room))
		for i := range v.Len() {
			fresh.Index(i).Set(rebuiltValue(v.Index(i), room))
		}
		for i := range room {
			write(fresh.Index(v.Len()+i), "unused", 70)
		}
		fresh.SetLen(v.Len())
	default:
		fresh.Set(v)
	}
	return fresh
}

// write writes over a string or a number, or all that a struct consists of, and
// over all items of its lists.
func write(v reflect.Value, text string, number int) {
	eachCell(v, func(cell reflect.Value) {
		if cell.Kind() == reflect.String {
			cell.SetString(text)
		} else {
			cell.SetInt(int64(number))
		}
	})
}

// eachCell calls do with each string and each number in v, those in the unused
// capacity of lists included.
func eachCell(v reflect.Value, do func(cell reflect.Value)) {
	switch v.Kind() {
	case reflect.Struct:
		for i := range v.NumField() {
			eachCell(v.Field(i), do)
		}
	case reflect.Slice:
		for i := range v.Cap() {
			eachCell(v.Slice(0, v.Cap()).Index(i), do)
		}
	default:
		do(v)
	}
}

// eachPart calls do with each field, and each item of a list, in v, and with
// the name of the field that it is or is in.
func eachPart(v reflect.Value, do func(name string, part reflect.Value)) {
	switch v.Kind() {
	case reflect.Struct:
		for i := range v.NumField() {
			do(v.Type().Field(i).Name, v.Field(i))
			eachPart(v.Field(i), do)
		}
	case reflect.Slice:
		for i := range v.Len() {
			do("item", v.Index(i))
			eachPart(v.Index(i), do)
		}
	}
}

// shown returns all that v consists of, and what stands in the unused capacity
// of its lists. A nil and an empty list are shown alike.
func shown(v any) string {
	var text strings.Builder
	show(&text, reflect.ValueOf(v))
	return text.String()
}

func show(text *strings.Builder, v reflect.Value) {
	switch v.Kind() {
	case reflect.Struct:
		text.WriteString("{")
		for i := range v.NumField() {
			show(text, v.Field(i))
		}
		text.WriteString("}")
	case reflect.Slice:
		text.WriteString("[")
		for i := range v.Cap() {
			if i == v.Len() {
				text.WriteString("|")
			}
			show(text, v.Slice(0, v.Cap()).Index(i))
		}
		text.WriteString("]")
	case reflect.String:
		text.WriteString(strconv.Quote(v.String()))
	default:
		text.WriteString(" " + strconv.FormatInt(v.Int(), 10) + " ")
	}
}

// numbered returns a new value with the same fields but At: these are the
// numbers behind last.
func numbered[T any](v T, last int) T {
	fresh := rebuilt(v, 0)
	eachPart(reflect.ValueOf(&fresh).Elem(), func(name string, part reflect.Value) {
		if name == "At" {
			last++
			part.SetInt(int64(last))
		}
	})
	return fresh
}

// spoil writes over all that v points to.
func spoil(v any) {
	write(reflect.ValueOf(v).Elem(), "spoilt", -70)
}

// checkFresh checks that no two lists in what v points to share memory: all is
// written over, and then read again.
func checkFresh(t *testing.T, v any) {
	t.Helper()
	count, next := 0, 0
	eachCell(reflect.ValueOf(v).Elem(), func(cell reflect.Value) {
		write(cell, strconv.Itoa(count), count)
		count++
	})
	eachCell(reflect.ValueOf(v).Elem(), func(cell reflect.Value) {
		if cell.Kind() == reflect.String && cell.String() != strconv.Itoa(next) || cell.Kind() == reflect.Int && cell.Int() != int64(next) {
			t.Errorf("part %d shares memory with another one", next)
		}
		next++
	})
}

// changed returns all values that differ from v in one thing: a string or a
// number, which is no At, or the length or the order of a list.
func changed[T any](v T) []T {
	var l []T
	parts := 0
	eachPart(reflect.ValueOf(&v).Elem(), func(string, reflect.Value) { parts++ })
	for i := range parts {
		for way := range 3 {
			fresh, count := rebuilt(v, 0), 0
			done := false
			eachPart(reflect.ValueOf(&fresh).Elem(), func(name string, part reflect.Value) {
				if count == i && name != "At" {
					done = change(part, way)
				}
				count++
			})
			if done {
				l = append(l, fresh)
			}
		}
	}
	return l
}

// change changes a string, a number or a list in one of three ways, and reports
// whether there is such a way.
func change(v reflect.Value, way int) bool {
	switch {
	case v.Kind() == reflect.String:
		v.SetString([]string{"", "z" + v.String(), strings.ToUpper(v.String()) + "_"}[way])
		return v.String() != ""
	case v.Kind() == reflect.Int:
		v.SetInt(v.Int() + int64([]int{1, -1, 256}[way]))
		return true
	case v.Kind() == reflect.Slice && way == 0:
		v.Set(reflect.Append(v, reflect.Zero(v.Type().Elem())))
		return true
	case v.Kind() == reflect.Slice && way == 1 && v.Len() > 0:
		v.SetLen(v.Len() - 1)
		return true
	case v.Kind() == reflect.Slice && way == 2 && v.Len() > 1:
		reflect.Swapper(v.Interface())(0, 1)
		return !reflect.DeepEqual(v.Index(0).Interface(), v.Index(1).Interface())
	}
	return false
}

// sigs, decls and programs return values, most of which are not right: some, and
// what differs from one of them in one thing.
func sigs() []api.Sig {
	return append(changed(sig()), sig(), bare(), api.Sig{})
}

func decls() []api.Decl {
	l := append(changed(full()), full(), api.Decl{})
	return append(l, sample().Decls...)
}

func programs() []api.Program {
	small := program(lit(of("T"), variable("x")), full(), structure("S", nil))
	return append(changed(small), small, sample(), api.Program{})
}

// rightDecls are right declarations, some with and some without type parameters.
func rightDecls() []api.Decl {
	a := []api.Formal{formal("a", of("Any"))}
	l := sample().Decls
	l = append(l, structure("S", nil), structure("S", a), structure("S", nil, param("f", of("T"))), structure("S", nil, param("f", of("T", of("U", of("V"))))))
	l = append(l, iface("I", nil), iface("I", a), iface("I", nil, bare()), iface("I", nil, sig()), iface("I", nil, bare(), bare(), sig()))
	l = append(l, iface("I", nil, api.Sig{Name: "m", Params: []api.Param{param("x", of("P"))}, Result: of("R", of("Q"))}))
	l = append(l, method("S", nil, bare(), chain(5)), method("S", []string{"a"}, bare(), variable("x")), method("S", nil, sig(), lit(of("T"))))
	l = append(l, method("S", nil, api.Sig{Name: "m", Result: of("R", of("Q"))}, variable("x")), method("S", nil, bare(), assert(variable("x"), of("A", of("B", of("C"))))))
	return append(l, method("S", nil, bare(), lit(of("T"), variable("x"), call("m", list("C"), variable("x")))), method("S", nil, bare(), call("m", nil, lit(of("T"), lit(of("U"))))))
}

// rightPrograms are right programs with up to two declarations.
func rightPrograms() []api.Program {
	mains := []api.Expr{variable("x"), lit(of("T")), chain(4), assert(lit(of("T", of("A"))), of("I")), call("m", []api.Type{of("C", of("D"))}, variable("x"), lit(of("T"))), sample().Main}
	var l []api.Program
	for _, main := range mains {
		l = append(l, program(main))
		for _, first := range rightDecls() {
			l = append(l, program(main, first))
			for _, second := range rightDecls() {
				l = append(l, program(main, first, second))
			}
		}
	}
	return append(l, sample())
}

// P6.1

// checkSame checks that same tells the values of l apart, whatever their offsets
// and unused capacities are.
func checkSame[T any](t *testing.T, l []T, same func(a, b T) bool) {
	t.Helper()
	var fields []string // what each is shown as, without unused capacity
	var others []T
	for i, v := range l {
		fields = append(fields, shown(rebuilt(v, 0)))
		others = append(others, rebuilt(numbered(v, 7*i-50), i%3))
	}
	for i, a := range l {
		for k, b := range others {
			if want := fields[i] == fields[k]; same(a, b) != want || same(b, a) != want {
				t.Fatalf("%s and %s are the same: %t", shown(a), shown(b), !want)
			}
		}
	}
}

func TestSame(t *testing.T) {
	checkSame(t, sigs(), SameSig)
	checkSame(t, decls(), SameDecl)
	checkSame(t, programs(), Same)
}

func TestSameForEachChange(t *testing.T) {
	for _, d := range append(decls(), rightDecls()...) {
		for i, other := range changed(d) {
			if SameDecl(d, other) || SameDecl(other, d) || Same(program(lit(of("T")), d), program(lit(of("T")), other)) {
				t.Fatalf("%d: a change is not seen: %s and %s", i, shown(d), shown(other))
			}
		}
	}
	for _, s := range sigs() {
		for i, other := range changed(s) {
			d, changedDecl := iface("I", nil, bare(), s), iface("I", nil, bare(), other)
			m, changedMethod := method("I", nil, s, variable("x")), method("I", nil, other, variable("x"))
			if SameSig(s, other) || SameSig(other, s) || SameDecl(d, changedDecl) || SameDecl(m, changedMethod) {
				t.Fatalf("%d: a change is not seen: %s and %s", i, shown(s), shown(other))
			}
		}
	}
}

func TestSameOfNilAndEmptyLists(t *testing.T) {
	empty := api.Sig{Name: "n", Formals: []api.Formal{}, Params: []api.Param{}, Result: api.Type{Name: "T", Args: []api.Type{}}}
	if !SameSig(empty, bare()) || !SameSig(bare(), empty) {
		t.Error("signatures with nil and empty lists are not the same")
	}
	d := api.Decl{Kind: api.Struct, Name: "S", Formals: []api.Formal{}, Fields: []api.Param{}, Sigs: []api.Sig{}, Vars: []string{}, Sig: api.Sig{Params: []api.Param{}}, Body: api.Expr{Kids: []api.Expr{}}}
	if !SameDecl(d, structure("S", nil)) || !SameDecl(structure("S", nil), d) || !RightDecl(d) {
		t.Error("declarations with nil and empty lists are not the same")
	}
	p := api.Program{Decls: []api.Decl{}, Main: api.Expr{Kind: api.Var, Name: "x", Targs: []api.Type{}, Kids: []api.Expr{}}}
	if !Same(p, program(variable("x"))) || !Same(program(variable("x")), p) || !Right(p) {
		t.Error("programs with nil and empty lists are not the same")
	}
}

// What a field of a declaration is: where a zero one is right too, it is zero.
const (
	zero = iota
	right
	wrong
)

// option is a value for a field, and what it is.
type option[T any] struct {
	value T
	is    int
}

func nameOptions(names ...string) []option[string] {
	l := []option[string]{{"", zero}}
	for _, s := range names {
		l = append(l, option[string]{s, right})
	}
	for _, s := range []string{"type", "$0", "_", "1", "x ", "é", "T[a]"} {
		l = append(l, option[string]{s, wrong})
	}
	return l
}

func formalsOptions() []option[[]api.Formal] {
	a := formal("a", of("T", of("b")))
	return []option[[]api.Formal]{
		{nil, zero}, {[]api.Formal{a}, right}, {[]api.Formal{a, formal("b", of("Any")), a}, right},
		{[]api.Formal{{}}, wrong}, {[]api.Formal{formal("main", of("T"))}, wrong}, {[]api.Formal{formal("a", of("$0"))}, wrong}, {[]api.Formal{a, formal("", of("T")), a}, wrong}, {[]api.Formal{a, formal("a", of("T", of("b"), of("")))}, wrong},
	}
}

func paramsOptions() []option[[]api.Param] {
	f := param("f", of("T", of("b")))
	return []option[[]api.Param]{
		{nil, zero}, {[]api.Param{f}, right}, {[]api.Param{f, f, param("f_2", of("a"))}, right},
		{[]api.Param{{}}, wrong}, {[]api.Param{param("func", of("T"))}, wrong}, {[]api.Param{param("f", of("_"))}, wrong}, {[]api.Param{f, param("", of("T")), f}, wrong}, {[]api.Param{f, param("f", of("T", of("b"), of("")))}, wrong},
	}
}

// sigOptions are all combinations of what a signature has.
func sigOptions() []option[api.Sig] {
	l := []option[api.Sig]{{api.Sig{}, zero}, {api.Sig{At: 5, Result: api.Type{At: 6}}, zero}}
	results := []option[api.Type]{{of("T"), right}, {of("T", of("a"), of("b", of("c"))), right}, {api.Type{}, wrong}, {of("T", of("a"), of("package")), wrong}, {of("", of("a")), wrong}}
	for _, n := range nameOptions("m") {
		for _, formals := range formalsOptions() {
			for _, params := range paramsOptions() {
				for _, result := range results {
					is := right
					if n.is != right || formals.is == wrong || params.is == wrong || result.is == wrong {
						is = wrong
					}
					s := api.Sig{Name: n.value, Formals: formals.value, Params: params.value, Result: result.value}
					if !reflect.DeepEqual(s, api.Sig{}) {
						l = append(l, option[api.Sig]{s, is})
					}
				}
			}
		}
	}
	return l
}

func bodyOptions() []option[api.Expr] {
	x := variable("x")
	return []option[api.Expr]{
		{api.Expr{}, zero}, {api.Expr{At: 3, Type: api.Type{At: 4}}, zero}, {x, right}, {sample().Main, right}, {lit(of("T"), x), right},
		{variable("$0"), wrong}, {api.Expr{Name: "x"}, wrong}, {api.Expr{Type: of("T")}, wrong}, {api.Expr{Kids: []api.Expr{x}}, wrong}, {api.Expr{Targs: list("T")}, wrong}, {call("m", nil), wrong}, {lit(of("T"), field(x, "type")), wrong},
	}
}

func varsOptions() []option[[]string] {
	return []option[[]string]{{nil, zero}, {[]string{"a"}, right}, {[]string{"a", "b", "a"}, right}, {[]string{""}, wrong}, {[]string{"a", "$0"}, wrong}, {[]string{"interface", "a"}, wrong}}
}

// has tells whether the fields of a declaration are as those of a kind must be.
// Each is zero, right or wrong.
func has(kind, name, formals, fields, sigs, recv, vars, sig, body int) bool {
	if name != right {
		return false
	}
	switch kind {
	case api.Struct:
		return formals != wrong && fields != wrong && sigs == zero && recv == zero && vars == zero && sig == zero && body == zero
	case api.Interface:
		return formals != wrong && fields == zero && sigs != wrong && recv == zero && vars == zero && sig == zero && body == zero
	case api.Method:
		return formals == zero && fields == zero && sigs == zero && recv == right && vars != wrong && sig == right && body == right
	}
	return false
}

// few returns one option of each sort, in the order of zero, right and wrong.
func few[T any](l []option[T]) []option[T] {
	last := map[int]option[T]{}
	for _, o := range l {
		last[o.is] = o
	}
	return []option[T]{last[zero], last[right], last[wrong]}
}

func sigsOptions() []option[[]api.Sig] {
	l := []option[[]api.Sig]{{nil, zero}, {[]api.Sig{{}}, wrong}, {[]api.Sig{sig(), {}}, wrong}}
	for _, o := range sigOptions() {
		if o.is != zero {
			l = append(l, option[[]api.Sig]{[]api.Sig{o.value}, o.is}, option[[]api.Sig]{[]api.Sig{sig(), o.value, bare()}, o.is})
		}
	}
	return l
}

// rightCheck checks RightDecl of d, and Right of programs with d in them.
func rightCheck(t *testing.T, d api.Decl, want bool) {
	t.Helper()
	if RightDecl(d) != want {
		t.Fatalf("RightDecl(%s) = %t", shown(d), !want)
	}
	x, s := variable("x"), structure("S", nil)
	for _, p := range []api.Program{program(x, d), program(lit(of("T"), x), s, d), program(x, d, s)} {
		if Right(p) != want {
			t.Fatalf("Right(%s) = %t", shown(p), !want)
		}
	}
	if Right(program(api.Expr{}, d)) || Right(program(variable("type"), d, d)) {
		t.Fatalf("with %s and a Main that is not right, a program is", shown(d))
	}
}

func TestRightOfEverySort(t *testing.T) {
	names, formals, fields, recvs := few(nameOptions("S")), few(formalsOptions()), few(paramsOptions()), few(nameOptions("x"))
	lists, vars, sigs, bodies := few(sigsOptions()), few(varsOptions()), few(sigOptions()), few(bodyOptions())
	count := 0
	for kind := -1; kind <= 5; kind++ {
		for sorts := range 3 * 3 * 3 * 3 * 3 * 3 * 3 * 3 {
			next := func() int {
				sort := sorts % 3
				sorts /= 3
				return sort
			}
			n, f, p, l, r, v, s, b := next(), next(), next(), next(), next(), next(), next(), next()
			d := api.Decl{Kind: kind, Name: names[n].value, Formals: formals[f].value, Fields: fields[p].value, Sigs: lists[l].value, Recv: recvs[r].value, Vars: vars[v].value, Sig: sigs[s].value, Body: bodies[b].value, At: count}
			want := has(kind, n, f, p, l, r, v, s, b)
			if RightDecl(d) != want {
				t.Fatalf("RightDecl(%s) = %t", shown(d), !want)
			}
			if want {
				count++
			}
		}
	}
	if count != 2*2+2*2+2 {
		t.Error(count, "are right")
	}
}

func TestRightOfEachField(t *testing.T) {
	s, i, m := sample().Decls[0], sample().Decls[1], sample().Decls[2]
	for k, base := range []api.Decl{s, i, m, structure("S", nil), iface("I", nil), method("S", nil, bare(), variable("x"))} {
		at := []int{right, right, right, right, right, right, right, right}
		if base.Kind != api.Method {
			at = []int{right, right, right, right, zero, zero, zero, zero}
		}
		if base.Kind == api.Struct {
			at[3] = zero
		} else {
			at[2] = zero
		}
		if base.Kind == api.Method {
			at[1], at[3] = zero, zero
		}
		// with returns whether the base with another field is right.
		with := func(index, is int) bool {
			other := slices.Clone(at)
			other[index] = is
			return has(base.Kind, other[0], other[1], other[2], other[3], other[4], other[5], other[6], other[7])
		}
		rightCheck(t, base, with(0, right))
		tryEach(t, base, nameOptions("S", "a_1"), func(d *api.Decl, v string) { d.Name = v }, func(is int) bool { return with(0, is) })
		tryEach(t, base, formalsOptions(), func(d *api.Decl, v []api.Formal) { d.Formals = v }, func(is int) bool { return with(1, is) })
		tryEach(t, base, paramsOptions(), func(d *api.Decl, v []api.Param) { d.Fields = v }, func(is int) bool { return with(2, is) })
		tryEach(t, base, sigsOptions(), func(d *api.Decl, v []api.Sig) { d.Sigs = v }, func(is int) bool { return with(3, is) })
		tryEach(t, base, nameOptions("x", "a_1"), func(d *api.Decl, v string) { d.Recv = v }, func(is int) bool { return with(4, is) })
		tryEach(t, base, varsOptions(), func(d *api.Decl, v []string) { d.Vars = v }, func(is int) bool { return with(5, is) })
		tryEach(t, base, sigOptions(), func(d *api.Decl, v api.Sig) { d.Sig = v }, func(is int) bool { return with(6, is) })
		tryEach(t, base, bodyOptions(), func(d *api.Decl, v api.Expr) { d.Body = v }, func(is int) bool { return with(7, is) })
		for _, kind := range []int{-1, 0, 4, 5, 6, math.MaxInt, math.MinInt, base.Kind%3 + 1} {
			d := base
			d.Kind = kind
			if k < 3 || kind > 3 || kind < 1 {
				rightCheck(t, d, false)
			}
		}
	}
}

// tryEach checks whether base is right with each option for a field.
func tryEach[T any](t *testing.T, base api.Decl, l []option[T], put func(d *api.Decl, v T), want func(is int) bool) {
	t.Helper()
	for _, o := range l {
		d := rebuilt(base, 0)
		put(&d, o.value)
		rightCheck(t, d, want(o.is))
	}
}

func TestRightOfTheMain(t *testing.T) {
	for _, o := range bodyOptions() {
		for _, l := range [][]api.Decl{nil, {structure("S", nil)}, sample().Decls} {
			if p := program(o.value, l...); Right(p) != (o.is == right) {
				t.Errorf("Right(%s) = %t", shown(p), o.is != right)
			}
		}
	}
	if Right(api.Program{}) || Right(program(variable("x"), api.Decl{})) {
		t.Error("what is zero is right")
	}
}

func TestRightWhateverTheOffsets(t *testing.T) {
	for _, p := range rightPrograms() {
		for _, same := range []api.Program{p, numbered(p, -2), numbered(p, math.MaxInt-999), rebuilt(p, 1)} {
			if !Right(same) {
				t.Fatalf("Right(%s) = false", shown(same))
			}
		}
	}
}

// The same names may be declared twice, and names that nothing declares be used.
func TestRightWhateverTheNamesMean(t *testing.T) {
	for _, p := range []api.Program{
		program(variable("x"), structure("S", nil), structure("S", nil), iface("S", nil)),
		program(lit(of("T")), structure("S", []api.Formal{formal("a", of("a")), formal("a", of("S"))}, param("a", of("S")), param("a", of("S")))),
		program(variable("this"), iface("I", nil, bare(), bare())),
		program(variable("x"), method("T", []string{"a", "a"}, sig(), variable("z"))),
	} {
		if !Right(p) {
			t.Errorf("Right(%s) = false", shown(p))
		}
	}
}

// P6.2

// texts returns the texts of types.
func texts(l []api.Type) string {
	var all []string
	for _, t := range l {
		all = append(all, types.Text(t))
	}
	return strings.Join(all, "; ")
}

func TestTypesAndDepth(t *testing.T) {
	x := variable("x")
	deep := of("A", of("B"), of("C", of("D", of("E"))), of("F"))
	for _, want := range []struct {
		p     api.Program
		texts string
		depth int
	}{
		{program(x), "", 1},
		{program(lit(of("T"))), "T", 2},
		{program(chain(7)), "", 7},
		{program(assert(x, deep)), "A[B, C[D[E]], F]", 5},
		{program(x, structure("S", nil)), "", 1},
		{program(x, iface("I", nil)), "", 1},
		{program(x, iface("I", nil, bare())), "T", 1},
		{program(x, method("S", []string{"a"}, bare(), x)), "T", 1},
		{program(x, method("S", nil, bare(), chain(3))), "T", 3},
		{program(chain(3), method("S", nil, bare(), chain(9)), structure("S", nil)), "T", 9},
		{program(x, method("S", nil, bare(), lit(deep))), "T; A[B, C[D[E]], F]", 5},
		{program(x, structure("S", nil, param("f", of("T")), param("g", deep))), "T; A[B, C[D[E]], F]", 4},
		{program(x, structure("S", []api.Formal{formal("a", of("T")), formal("b", deep)})), "T; A[B, C[D[E]], F]", 4},
		{program(x, iface("S", []api.Formal{formal("a", deep), formal("b", of("T"))})), "A[B, C[D[E]], F]; T", 4},
		{program(x, iface("I", nil, api.Sig{Name: "m", Formals: []api.Formal{formal("a", deep)}, Result: of("T")})), "A[B, C[D[E]], F]; T", 4},
		{program(x, iface("I", nil, api.Sig{Name: "m", Params: []api.Param{param("x", deep)}, Result: of("T")})), "A[B, C[D[E]], F]; T", 4},
		{program(x, iface("I", nil, bare(), api.Sig{Name: "m", Result: deep})), "T; A[B, C[D[E]], F]", 4},
		{program(x, method("S", nil, api.Sig{Name: "m", Formals: []api.Formal{formal("a", deep)}, Result: of("T")}, x)), "A[B, C[D[E]], F]; T", 4},
		{program(x, method("S", nil, api.Sig{Name: "m", Params: []api.Param{param("x", deep)}, Result: of("T")}, x)), "A[B, C[D[E]], F]; T", 4},
		{program(x, method("S", nil, api.Sig{Name: "m", Result: deep}, x)), "A[B, C[D[E]], F]", 4},
		{program(x, method("S", nil, sig(), lit(of("B")))), "I[a]; Any; a; F[b]; R; B", 2},
		{program(call("m", []api.Type{of("A"), deep}, lit(of("B"), assert(x, of("C"))), lit(of("D")))), "A; A[B, C[D[E]], F]; B; C; D", 5},
		{program(lit(of("T"), lit(of("T"))), structure("T", nil, param("f", of("T"))), structure("U", nil, param("f", of("T")))), "T; T; T; T", 3},
		{sample(), "Sa[d]; Sb; Sc[c, d]; Sd; Ia; I[a]; Any; a; F[b]; R; T; I[a]; Any; a; F[b]; R; Ba; Bb[c]; Bc; Bd; Me[Mf, Mg]; Ma; Mb[Mc]; Md", 5},
	} {
		for _, p := range []api.Program{want.p, rebuilt(want.p, 2), numbered(want.p, 50)} {
			if got, depth := texts(Types(p)), Depth(p); got != want.texts || depth != want.depth || !Right(p) {
				t.Errorf("%s: Types %s, want %s, Depth %d, want %d", shown(p), got, want.texts, depth, want.depth)
			}
		}
	}
}

// wantTypes takes the types in the order in which the fields of declarations,
// signatures and expressions stand, which is that of the chapter. A type that a
// right program does not use has no Name.
func wantTypes(p api.Program) []api.Type {
	var l []api.Type
	eachPart(reflect.ValueOf(p), func(name string, part reflect.Value) {
		if t, is := part.Interface().(api.Type); is && t.Name != "" {
			l = append(l, t)
		}
	})
	// The types in a type come behind it.
	for i := 0; i < len(l); i++ {
		l = slices.Delete(l, i+1, i+types.Size(l[i]))
	}
	return l
}

// wantDepth finds the greatest depth by the words of the chapter.
func wantDepth(p api.Program) int {
	deepest := exprDepth(p.Main)
	for _, d := range p.Decls {
		if d.Kind == api.Method {
			deepest = max(deepest, exprDepth(d.Body))
		}
	}
	for _, t := range wantTypes(p) {
		deepest = max(deepest, types.Depth(t))
	}
	return deepest
}

func exprDepth(e api.Expr) int {
	deepest := 0
	for _, kid := range e.Kids {
		deepest = max(deepest, exprDepth(kid))
	}
	for _, t := range e.Targs {
		deepest = max(deepest, types.Depth(t))
	}
	if e.Type.Name != "" {
		deepest = max(deepest, types.Depth(e.Type))
	}
	return deepest + 1
}

func TestTypesAndDepthOfManyPrograms(t *testing.T) {
	for i, p := range rightPrograms() {
		p = numbered(p, 3*i)
		if got, want := shown(rebuilt(Types(p), 0)), shown(rebuilt(wantTypes(p), 0)); got != want {
			t.Fatalf("Types(%s) = %s, want %s", shown(p), got, want)
		}
		if got, want := Depth(p), wantDepth(p); got != want {
			t.Fatalf("Depth(%s) = %d, want %d", shown(p), got, want)
		}
	}
}

func TestTypesSharesNoMemory(t *testing.T) {
	for _, p := range append(rightPrograms()[:200], sample()) {
		p = rebuilt(p, 2)
		before, want := shown(p), shown(rebuilt(wantTypes(p), 0))
		l := Types(p)
		checkFresh(t, &l)
		spoil(&l)
		if shown(p) != before {
			t.Fatalf("the program was %s and is %s", before, shown(p))
		}
		l = Types(p)
		spoil(&p)
		if got := shown(rebuilt(l, 0)); got != want {
			t.Fatalf("a change of the program changes %s to %s", want, got)
		}
	}
}

// P6.3

// wantPlain finds whether all lists of type parameters and arguments are empty.
func wantPlain(p api.Program) bool {
	plain := true
	eachPart(reflect.ValueOf(p), func(name string, part reflect.Value) {
		if slices.Contains([]string{"Formals", "Vars", "Targs", "Args"}, name) && part.Len() > 0 {
			plain = false
		}
	})
	return plain
}

func TestPlain(t *testing.T) {
	plain, others := 0, 0
	for _, p := range rightPrograms() {
		for _, same := range []api.Program{p, rebuilt(p, 2), numbered(p, -9)} {
			if got := Plain(same); got != wantPlain(p) {
				t.Fatalf("Plain(%s) = %t", shown(p), got)
			}
		}
		if wantPlain(p) {
			plain++
		} else {
			others++
		}
	}
	if plain < 50 || others < 50 {
		t.Error(plain, others)
	}
}

// plainSample returns a right program with declarations of all kinds, but
// without type parameters and arguments.
func plainSample() api.Program {
	s := api.Sig{Name: "m", Params: []api.Param{param("x", of("P")), param("y", of("Q"))}, Result: of("R")}
	body := call("m", nil, field(variable("this"), "l"), lit(of("A"), assert(call("n", nil, variable("x")), of("B"))))
	return program(assert(call("m", nil, lit(of("C"), variable("x")), call("n", nil, variable("y"))), of("D")),
		structure("S", nil, param("l", of("F")), param("r", of("G"))), structure("E", nil),
		iface("I", nil, s, bare()), iface("J", nil),
		method("S", nil, s, body), method("S", nil, bare(), variable("x")))
}

func TestPlainForEachTypeParameterAndArgument(t *testing.T) {
	p := plainSample()
	if !Plain(p) || !Plain(program(variable("x"))) || !Plain(program(lit(of("T")))) || Plain(sample()) {
		t.Error("Plain is wrong")
	}
	items := map[string]reflect.Value{
		"Formals": reflect.ValueOf(formal("a", of("Any"))), "Vars": reflect.ValueOf("a"),
		"Targs": reflect.ValueOf(of("T")), "Args": reflect.ValueOf(of("T")),
	}
	counts := map[string]int{}
	for i := range 1000 {
		fresh, count := rebuilt(p, 0), 0
		changed := ""
		eachPart(reflect.ValueOf(&fresh).Elem(), func(name string, part reflect.Value) {
			if count == i && items[name].IsValid() {
				changed = name
				part.Set(reflect.Append(part, items[name]))
			}
			count++
		})
		// What is added to a field that is not used makes it wrong.
		if changed == "" || !Right(fresh) {
			continue
		}
		counts[changed]++
		if Plain(fresh) {
			t.Errorf("Plain(%s) = true", shown(fresh))
		}
	}
	if counts["Formals"] != 4+2+2 || counts["Vars"] != 2 || counts["Targs"] != 4 || counts["Args"] != 2+3+1+3+1+2+2 {
		t.Error(counts)
	}
}

func TestClone(t *testing.T) {
	for _, p := range append(programs(), rightPrograms()...) {
		for _, first := range []int{0, 3, math.MaxInt - 999, math.MinInt} {
			p := numbered(p, first)
			if got := Clone(rebuilt(p, 1)); shown(rebuilt(got, 0)) != shown(p) || !Same(got, p) {
				t.Fatalf("Clone(%s) = %s", shown(p), shown(got))
			}
		}
	}
}

func TestCloneSharesNoMemory(t *testing.T) {
	for _, p := range append(programs(), sample(), plainSample()) {
		p = rebuilt(p, 2)
		before, want := shown(p), shown(rebuilt(p, 0))
		c := Clone(p)
		checkFresh(t, &c)
		spoil(&c)
		if shown(p) != before {
			t.Fatalf("the program was %s and is %s", before, shown(p))
		}
		c = Clone(p)
		spoil(&p)
		if got := shown(rebuilt(c, 0)); got != want {
			t.Fatalf("a change of the program changes %s to %s", want, got)
		}
	}
}

func TestNoMemoryIsSharedWhereTheProgramShares(t *testing.T) {
	d, e, ty := full(), sample().Main, of("T", of("a")) // stand in many places, with their memory
	l := []api.Formal{formal("a", ty), formal("b", ty)}
	c := Clone(program(e, d, d, structure("S", l, param("f", ty)), iface("I", l, sig()), method("S", d.Vars, d.Sig, e)))
	checkFresh(t, &c)
	all := Types(program(e, method("S", nil, sig(), e), structure("S", l, param("f", ty)), iface("I", l), method("S", nil, bare(), e)))
	checkFresh(t, &all)
}

// All promises

func TestTheOthersLeaveAProgramAsItIs(t *testing.T) {
	for _, p := range append(programs(), sample(), plainSample()) {
		p = rebuilt(numbered(p, 1), 2)
		before := shown(p)
		Same(p, p)
		Right(p)
		Depth(p)
		Plain(p)
		for _, d := range p.Decls {
			SameDecl(d, d)
			RightDecl(d)
			SameSig(d.Sig, d.Sig)
		}
		if shown(p) != before {
			t.Fatalf("%s is now %s", before, shown(p))
		}
	}
}

// Depth, Plain and Types are not specified for these, but return.
func TestNothingPanicsForProgramsThatAreNotRight(t *testing.T) {
	l := programs()
	for kind := -1; kind <= 6; kind++ {
		d, e := full(), variable("x")
		d.Kind, e.Kind = kind, kind
		l = append(l, program(e, d), program(e, api.Decl{Kind: kind, Body: e}))
	}
	for _, p := range l {
		Types(p)
		Depth(p)
		Plain(p)
	}
}

func TestTheGreatestPrograms(t *testing.T) {
	nested := of("T")
	for range most/2 - 1 {
		nested = of("T", nested)
	}
	x, ty := variable("x"), of("T", slices.Repeat(list("A"), most-2)...)
	for what, want := range map[string]struct {
		p     api.Program
		types int
		depth int
		plain bool
	}{
		"many structs":     {program(x, slices.Repeat([]api.Decl{structure("S", nil)}, most-1)...), 0, 1, true},
		"many methods":     {program(x, slices.Repeat([]api.Decl{method("S", nil, bare(), x)}, most/4)...), most / 4, 1, true},
		"many fields":      {program(x, structure("S", nil, slices.Repeat([]api.Param{param("f", of("T"))}, most/2)...)), most / 2, 1, true},
		"many formals":     {program(x, structure("S", slices.Repeat([]api.Formal{formal("a", of("T"))}, most/2))), most / 2, 1, false},
		"many signatures":  {program(x, iface("I", nil, slices.Repeat([]api.Sig{bare()}, most/2)...)), most / 2, 1, true},
		"many parameters":  {program(x, iface("I", nil, api.Sig{Name: "m", Params: slices.Repeat([]api.Param{param("x", of("T"))}, most/2), Result: of("T")})), most/2 + 1, 1, true},
		"many vars":        {program(x, method("S", slices.Repeat([]string{"a"}, most-3), bare(), x)), 1, 1, false},
		"a deep Main":      {program(chain(most)), 0, most, true},
		"a deep body":      {program(x, method("S", nil, bare(), chain(most-4))), 1, most - 4, true},
		"a deep field":     {program(x, structure("S", nil, param("f", nested))), 1, most / 2, false},
		"a deep signature": {program(x, iface("I", nil, api.Sig{Name: "m", Result: nested})), 1, most / 2, false},
		"a wide type":      {program(lit(ty)), 1, 3, false},
	} {
		if !Right(want.p) || len(Types(want.p)) != want.types || Depth(want.p) != want.depth || Plain(want.p) != want.plain {
			t.Errorf("%s: Right %t, Types %d, Depth %d, Plain %t", what, Right(want.p), len(Types(want.p)), Depth(want.p), Plain(want.p))
		}
		if c := Clone(want.p); !Same(c, want.p) || Same(c, program(want.p.Main, append(want.p.Decls, structure("S", nil))...)) {
			t.Errorf("%s is compared wrong", what)
		}
	}
}

func TestConcurrentCalls(t *testing.T) {
	p, want := sample(), texts(Types(sample()))
	var done sync.WaitGroup
	for range 8 {
		done.Go(func() {
			for range 200 {
				c := Clone(p)
				l := Types(p)
				if !Same(c, p) || texts(l) != want || Depth(p) != 5 || Plain(p) || !Right(p) || !RightDecl(c.Decls[2]) {
					t.Error("a concurrent call went wrong")
					return
				}
				spoil(&c)
				spoil(&l)
			}
		})
	}
	done.Wait()
}

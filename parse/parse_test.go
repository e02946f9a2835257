package parse

import (
	"errors"
	"fmt"
	"maps"
	"reflect"
	"slices"
	"strconv"
	"strings"
	"sync"
	"testing"

	"castings/api"
	"castings/decl"
	"castings/lex"
)

// of returns a type with an offset.
func of(at int, name string, args ...api.Type) api.Type {
	return api.Type{Name: name, Args: args, At: at}
}

func formal(at int, name string, bound api.Type) api.Formal {
	return api.Formal{Name: name, Bound: bound, At: at}
}

func param(at int, name string, t api.Type) api.Param {
	return api.Param{Name: name, Type: t, At: at}
}

func variable(at int, name string) api.Expr {
	return api.Expr{Kind: api.Var, Name: name, At: at}
}

func call(at int, name string, targs []api.Type, kids ...api.Expr) api.Expr {
	return api.Expr{Kind: api.Call, Name: name, Targs: targs, Kids: kids, At: at}
}

// lit returns a literal, whose offset is that of its Type.
func lit(t api.Type, kids ...api.Expr) api.Expr {
	return api.Expr{Kind: api.Lit, Type: t, Kids: kids, At: t.At}
}

func field(at int, name string, kid api.Expr) api.Expr {
	return api.Expr{Kind: api.Field, Name: name, Kids: []api.Expr{kid}, At: at}
}

func assert(at int, t api.Type, kid api.Expr) api.Expr {
	return api.Expr{Kind: api.Assert, Type: t, Kids: []api.Expr{kid}, At: at}
}

func structure(at int, name string, formals []api.Formal, fields ...api.Param) api.Decl {
	return api.Decl{Kind: api.Struct, Name: name, Formals: formals, Fields: fields, At: at}
}

func specification(at int, name string, formals []api.Formal, sigs ...api.Sig) api.Decl {
	return api.Decl{Kind: api.Interface, Name: name, Formals: formals, Sigs: sigs, At: at}
}

func method(at int, recv, name string, vars []string, sig api.Sig, body api.Expr) api.Decl {
	return api.Decl{Kind: api.Method, Recv: recv, Name: name, Vars: vars, Sig: sig, Body: body, At: at}
}

func sig(at int, name string, formals []api.Formal, params []api.Param, result api.Type) api.Sig {
	return api.Sig{Name: name, Formals: formals, Params: params, Result: result, At: at}
}

// shown returns all fields of a declaration or a program, with offsets, where
// nil and empty lists are alike.
func shown(v any) string { return fmt.Sprintf("%+v", v) }

// isFault tells whether err is the api.Fault itself, and not a wrapped one.
func isFault(err error, code api.Code, at int) bool {
	f, ok := err.(api.Fault)
	return ok && f == api.Fault{Code: code, At: at}
}

// checkWrong checks that a text is no program, or no declaration.
func checkWrong(t *testing.T, rule, s string, code api.Code, at int) {
	t.Helper()
	var err error
	none := false
	if rule == "decl" {
		var v api.Decl
		v, err = Decl(s)
		none = shown(v) == shown(api.Decl{})
	} else {
		var v api.Program
		v, err = Program(s)
		none = shown(v) == shown(api.Program{})
		if tree, ok := Tree(s); ok || shown(tree) != shown(api.Program{}) {
			t.Errorf("Tree of %.60q = %.60s, %t, where Program has an error", s, shown(tree), ok)
		}
	}
	if !none || !isFault(err, code, at) {
		t.Errorf("the %s of %.60q: %t, %#v, want the error %d at %d", rule, s, none, err, code, at)
	}
}

// checkProgram checks what a text is read as by Program and Tree.
func checkProgram(t *testing.T, s string, want api.Program) {
	t.Helper()
	if got, err := Program(s); err != nil || shown(got) != shown(want) {
		t.Errorf("Program(%.80q) = %s, %v, want %s", s, shown(got), err, shown(want))
	}
	if got, ok := Tree(s); !ok || shown(got) != shown(want) {
		t.Errorf("Tree(%.80q) = %s, %t, want %s", s, shown(got), ok, shown(want))
	}
}

// head and tail are what a program consists of beside its declarations; the
// expression of main is x.
const (
	head = "package main;"
	tail = "func main(){_=x}"
)

// reservedWords are those of layer 1.
var reservedWords = []string{"package", "main", "type", "struct", "interface", "func", "return"}

// signs are those of layer 3.
var signs = strings.Split("()[]{}.,;=_", "")

// P8.1

func TestTheExampleOfTheChapter(t *testing.T) {
	checkProgram(t, "package main; func main() { _ = T{} }", api.Program{Main: lit(of(32, "T"))})
}

func TestProgramsWithoutDeclarations(t *testing.T) {
	for s, main := range map[string]api.Expr{
		"package main;func main(){_=x}":                              variable(27, "x"),
		"package main; func main() { _ = x.f.m[T[a]](y).(U) } // x":  assert(47, of(48, "U"), call(36, "m", []api.Type{of(38, "T", of(40, "a"))}, field(34, "f", variable(32, "x")), variable(44, "y"))),
		"package\nmain\n;\nfunc\nmain\n(\n)\n{\n_\n=\nT\n{\nx\n}\n}": lit(of(35, "T"), variable(39, "x")),
		"//x\npackage//main\nmain//;\n;func main(){_=T{U[a]{}}}//y":  lit(of(41, "T"), lit(of(43, "U", of(45, "a")))),
		"package main; func main() { _ = T{x, y}.m() }":              call(40, "m", nil, lit(of(32, "T"), variable(34, "x"), variable(37, "y"))),
	} {
		checkProgram(t, s, api.Program{Main: main})
	}
}

func TestProgramsWithDeclarations(t *testing.T) {
	main := func(at int) api.Expr { return variable(at, "x") }
	checkProgram(t, head+"type T struct{};"+tail, api.Program{Decls: []api.Decl{structure(18, "T", nil)}, Main: main(43)})
	checkProgram(t, head+"type T interface{};"+tail, api.Program{Decls: []api.Decl{specification(18, "T", nil)}, Main: main(46)})
	checkProgram(t, head+"func(x T)m()U{return y};"+tail, api.Program{
		Decls: []api.Decl{method(20, "x", "T", nil, sig(22, "m", nil, nil, of(25, "U")), variable(34, "y"))}, Main: main(51),
	})
	// The order of declarations is kept, and none are put together.
	checkProgram(t, head+"func(x T)m()U{return y};type T struct{};func(x T)m()U{return y};type T interface{};type T struct{f T;};"+tail, api.Program{
		Decls: []api.Decl{
			method(20, "x", "T", nil, sig(22, "m", nil, nil, of(25, "U")), variable(34, "y")),
			structure(42, "T", nil),
			method(60, "x", "T", nil, sig(62, "m", nil, nil, of(65, "U")), variable(74, "y")),
			specification(82, "T", nil),
			structure(101, "T", nil, param(110, "f", of(112, "T"))),
		}, Main: main(130),
	})
}

func TestManyDeclarations(t *testing.T) {
	const one = "type T struct{};"
	n := (api.MaxText - len(head+tail)) / len(one)
	s := head + strings.Repeat(one, n) + tail
	s += strings.Repeat(" ", api.MaxText-len(s))
	p, err := Program(s)
	if err != nil || len(p.Decls) != n {
		t.Fatal(len(p.Decls), err)
	}
	for i, d := range p.Decls {
		if shown(d) != shown(structure(len(head)+i*len(one)+5, "T", nil)) {
			t.Fatal(i, shown(d))
		}
	}
	checkWrong(t, "program", s+" ", api.LexError, api.MaxText)
}

func TestTextsThatAreNoProgram(t *testing.T) {
	for s, at := range map[string]int{
		"": 0, "  ": 2, "// package main": 15, "x": 0, "main": 0, "func main() { _ = x }": 0, "type T struct {};": 0, ";": 0,
		"package": 7, "package ": 8, "package x;": 8, "package func": 8, "package ;": 8, "package package main;": 8, "packages main;": 0, "package_ main;": 0,
		"package main": 12, "package main func": 13, "package main.": 12, "package mains;": 8, "package main main": 13,
		"package main;": 13, "package main; ": 14, "package main;;": 13, "package main; package main;": 14, "package main; main": 14, "package main; x": 14, "package main; struct": 14, "package main; return": 14, "package main; interface": 14, "package main; }": 14, "package main; _ = x": 14, "package main; (": 14,
		"package main; func": 18, "package main; func x": 19, "package main; func func": 19, "package main; func T.m": 19, "package main; func [": 19, "package main; func mains(": 19, "package main; func type": 19, "package main; func )": 19,
		"package main; func main": 23, "package main; func main x": 24, "package main; func main[": 23, "package main; func main)": 23, "package main; func main{": 23, "package main; func main;": 23,
		"package main; func main(": 24, "package main; func main(x": 24, "package main; func main(x T": 24, "package main; func main((": 24, "package main; func main{}": 23,
		"package main; func main()": 25, "package main; func main() T": 26, "package main; func main() ;": 26, "package main; func main() (": 26, "package main; func main() _": 26,
		"package main; func main() {": 27, "package main; func main() {}": 27, "package main; func main() { x": 28, "package main; func main() { return": 28, "package main; func main() { = x": 28, "package main; func main() { __ = x": 29, "package main; func main() { _a = x": 29,
		"package main; func main() { _": 29, "package main; func main() { _ x": 30, "package main; func main() { _ }": 30, "package main; func main() { _, ": 29, "package main; func main() { _ _ = x": 30,
		"package main; func main() { _ =": 31, "package main; func main() { _ = }": 32, "package main; func main() { _ == x": 31, "package main; func main() { _ = return x": 32, "package main; func main() { _ = _": 32, "package main; func main() { _ = main": 32, "package main; func main() { _ = (": 32,
		"package main; func main() { _ = x": 33, "package main; func main() { _ = x; }": 33, "package main; func main() { _ = x y": 34, "package main; func main() { _ = x _": 34, "package main; func main() { _ = T{": 34, "package main; func main() { _ = T{}": 35, "package main; func main() { _ = x.": 34, "package main; func main() { _ = x]": 33, "package main; func main() { _ = x = y": 34, "package main; func main() { _ = T[a] }": 37,
		"package main; func main() { _ = x };": 35, "package main; func main() { _ = x } }": 36, "package main; func main() { _ = x } x": 36, "package main; func main() { _ = x } type T struct {};": 36, "package main; func main() { _ = x } package main;": 36, "package main; func main() { _ = x } func main() { _ = x }": 36, "package main; func main() { _ = x } // x\n_": 41,
	} {
		checkWrong(t, "program", s, api.ParseError, at)
	}
}

// wrongDecls are texts that are no declaration, with the offset of the token
// that cannot stand where it is: where a program has its declarations, too.
var wrongDecls = map[string]int{
	"type": 4, "type ": 5, "type ;": 5, "type type": 5, "type struct": 5, "type func": 5, "type main() {_ = x}": 5, "type [": 5, "type (": 5, "type _": 5, "type {": 5, "types T struct {};": 0,
	"type T": 6, "type T;": 6, "type T U": 7, "type T T": 7, "type T.": 6, "type T{": 6, "type T(": 6, "type T type": 7, "type T func": 7, "type T main": 7, "type T =": 7, "type T return": 7, "type T structs": 7, "type T interface_": 7,
	"type T[": 7, "type T[]": 7, "type T[,": 7, "type T[type": 7, "type T[_": 7, "type T[[": 7, "type T[a": 8, "type T[a]": 8, "type T[a,": 8, "type T[a;": 8, "type T[a interface": 9, "type T[a _": 9, "type T[a A": 10, "type T[a A;": 10, "type T[a A b": 11, "type T[a A)": 10, "type T[a A,": 11, "type T[a A,]": 11, "type T[a A,,": 11, "type T[a A, b": 13, "type T[a A, b]": 13, "type T[a, b B]": 8, "type T[a A[": 11, "type T[a A[]": 11, "type T[a A[b]": 13, "type T[a A[b],": 14, "type T[a A[b B": 13, "type T[a A.": 10, "type T[a A{": 10,
	"type T[a A]": 11, "type T[a A]]": 11, "type T[a A];": 11, "type T[a A][": 11, "type T[a A] {": 12, "type T[a A] T": 12, "type T[a A](": 11,
	"type T struct": 13, "type T struct;": 13, "type T struct x": 14, "type T struct (": 14, "type T struct [": 14, "type T struct struct": 14, "type T struct }": 14, "type T struct T {": 14,
	"type T struct {": 15, "type T struct {;": 15, "type T struct {,": 15, "type T struct {type": 15, "type T struct {_ ": 15, "type T struct {)": 15, "type T struct {{": 15, "type T struct {struct": 15, "type T struct {[": 15,
	"type T struct {f": 16, "type T struct {f}": 16, "type T struct {f;": 16, "type T struct {f,": 16, "type T struct {f[": 16, "type T struct {f(": 16, "type T struct {f func": 17, "type T struct {f _": 17, "type T struct {f f": 18, "type T struct {f T}": 18, "type T struct {f T,": 18, "type T struct {f T g": 19, "type T struct {f T{": 18, "type T struct {f T.": 18, "type T struct {f T(": 18, "type T struct {f T[": 19, "type T struct {f T[]": 19, "type T struct {f T[a}": 20, "type T struct {f T[a];": 22, "type T struct {f T[a U]": 21,
	"type T struct {f T;": 19, "type T struct {f T;;": 19, "type T struct {f T; g": 21, "type T struct {f T; g}": 21, "type T struct {f T; g U}": 23, "type T struct {f T; type": 20, "type T struct {f T; m()": 21, "type T struct {f T;)": 19,
	"type T struct {}": 16, "type T struct {}}": 16, "type T struct {} type": 17, "type T struct {},": 16, "type T struct {f T;}": 20, "type T struct {}.": 16, "type T struct {}[": 16, "type T struct {}{": 16,
	"type T interface": 16, "type T interface;": 16, "type T interface x": 17, "type T interface (": 17, "type T interface }": 17, "type T interface struct": 17,
	"type T interface {": 18, "type T interface {;": 18, "type T interface {,": 18, "type T interface {_": 18, "type T interface {func": 18, "type T interface {(": 18, "type T interface {[": 18, "type T interface {type": 18,
	"type T interface {m": 19, "type T interface {m}": 19, "type T interface {m;": 19, "type T interface {m T": 20, "type T interface {m{": 19, "type T interface {m)": 19, "type T interface {m.": 19,
	"type T interface {m[": 20, "type T interface {m[]": 20, "type T interface {m[a": 21, "type T interface {m[a]": 21, "type T interface {m[a,": 21, "type T interface {m[a A": 23, "type T interface {m[a A,]": 24, "type T interface {m[a A)": 23, "type T interface {m[a A]": 24, "type T interface {m[a A];": 24, "type T interface {m[a A][": 24, "type T interface {m[a A] T": 25,
	"type T interface {m(": 20, "type T interface {m(,": 20, "type T interface {m(]": 20, "type T interface {m(_": 20, "type T interface {m((": 20, "type T interface {m(struct": 20, "type T interface {m(x": 21, "type T interface {m(x)": 21, "type T interface {m(x,": 21, "type T interface {m(x;": 21, "type T interface {m(x (": 22, "type T interface {m(x T": 23, "type T interface {m(x T]": 23, "type T interface {m(x T;": 23, "type T interface {m(x T y": 24, "type T interface {m(x T,": 24, "type T interface {m(x T,)": 24, "type T interface {m(x T,,": 24, "type T interface {m(x T, y)": 26, "type T interface {m(x T{": 23, "type T interface {m(x T[a)": 25,
	"type T interface {m()": 21, "type T interface {m();": 21, "type T interface {m()}": 21, "type T interface {m())": 21, "type T interface {m()(": 21, "type T interface {m()[": 21, "type T interface {m(){": 21, "type T interface {m() type": 22, "type T interface {m() T": 23, "type T interface {m() T}": 23, "type T interface {m() T,": 23, "type T interface {m() T n": 24, "type T interface {m() T{": 23, "type T interface {m() T[": 24, "type T interface {m() T(": 23,
	"type T interface {m() T;": 24, "type T interface {m() T;;": 24, "type T interface {m() T; f T": 27, "type T interface {m() T; _": 25, "type T interface {m() T; n": 26, "type T interface {m() T; n() }": 29, "type T interface {}": 19, "type T interface {}}": 19, "type T interface {},": 19, "type T interface {m() T;}": 25, "type T interface {m() T;} type": 26,
	"func": 4, "func ": 5, "func x": 5, "func T.m": 5, "func m() T": 5, "func [": 5, "func ;": 5, "func func": 5, "func )": 5, "func {": 5, "function (": 0,
	"func (": 6, "func ()": 6, "func ((": 6, "func (_": 6, "func (type": 6, "func (main": 6, "func (,": 6, "func ([": 6,
	"func (x": 7, "func (x)": 7, "func (x,": 7, "func (x[": 7, "func (x.": 7, "func (x (": 8, "func (x _": 8, "func (x main": 8, "func (x struct": 8, "func (x T": 9, "func (x T;": 9, "func (x T U": 10, "func (x T,": 9, "func (x T{": 9, "func (x T]": 9, "func (x T(": 9, "func (x T.": 9,
	"func (x T[": 10, "func (x T[]": 10, "func (x T[,": 10, "func (x T[_": 10, "func (x T[type": 10, "func (x T[a": 11, "func (x T[a)": 11, "func (x T[a A": 12, "func (x T[a[": 11, "func (x T[a;": 11, "func (x T[a,": 12, "func (x T[a,]": 12, "func (x T[a,,": 12, "func (x T[a, b": 14, "func (x T[a, b c": 15, "func (x T[a, b[": 14, "func (x T[a]": 12, "func (x T[a]]": 12, "func (x T[a][": 12, "func (x T[a],": 12, "func (x T[a];": 12,
	"func (x T)": 10, "func (x T);": 10, "func (x T)(": 10, "func (x T){": 10, "func (x T)[": 10, "func (x T).": 10, "func (x T) type": 11, "func (x T) main": 11, "func (x T) return": 11, "func (x T) _": 11,
	"func (x T) m": 12, "func (x T) m;": 12, "func (x T) m T": 13, "func (x T) m{": 12, "func (x T) m.": 12, "func (x T) m)": 12, "func (x T) m[": 13, "func (x T) m[]": 13, "func (x T) m[a]": 14, "func (x T) m[a,": 14, "func (x T) m[a A": 16, "func (x T) m[a A,]": 17, "func (x T) m[a A]": 17, "func (x T) m[a A][": 17, "func (x T) m[a A] T": 18,
	"func (x T) m(": 13, "func (x T) m(,": 13, "func (x T) m(x": 14, "func (x T) m(x)": 14, "func (x T) m(x, y T)": 14, "func (x T) m(x T": 16, "func (x T) m(x T,)": 17, "func (x T) m(x T y": 17, "func (x T) m(x T;": 16, "func (x T) m(T[": 14,
	"func (x T) m()": 14, "func (x T) m();": 14, "func (x T) m() {": 15, "func (x T) m() (": 15, "func (x T) m() return": 15, "func (x T) m() T": 16, "func (x T) m() T;": 16, "func (x T) m() T U": 17, "func (x T) m() T return": 17, "func (x T) m() T,": 16, "func (x T) m() T(": 16, "func (x T) m() T.": 16, "func (x T) m() T[": 17, "func (x T) m() T[a": 18, "func (x T) m() T[a] [": 20, "func (x T) m() T[a];": 19,
	"func (x T) m() T {": 18, "func (x T) m() T {}": 18, "func (x T) m() T {x": 18, "func (x T) m() T {_": 18, "func (x T) m() T {;": 18, "func (x T) m() T {returns": 18, "func (x T) m() T {type": 18, "func (x T) m() T {{": 18,
	"func (x T) m() T {return": 24, "func (x T) m() T {return}": 24, "func (x T) m() T {return;": 24, "func (x T) m() T {return _": 25, "func (x T) m() T {return return": 25, "func (x T) m() T {return =": 25, "func (x T) m() T {return (x": 25,
	"func (x T) m() T {return x": 26, "func (x T) m() T {return x;": 26, "func (x T) m() T {return x y": 27, "func (x T) m() T {return x,": 26, "func (x T) m() T {return x)": 26, "func (x T) m() T {return x.": 27, "func (x T) m() T {return x = y": 27, "func (x T) m() T {return T{": 27, "func (x T) m() T {return T[a]}": 29, "func (x T) m() T {return x.m(": 29,
	"func (x T) m() T {return x}": 27, "func (x T) m() T {return x}}": 27, "func (x T) m() T {return x},": 27, "func (x T) m() T {return x} func": 28, "func (x T) m() T {return x}.": 27, "func (x T) m() T {return x} x": 28,
}

func TestTextsWithAWrongDeclaration(t *testing.T) {
	for s, at := range wrongDecls {
		checkWrong(t, "program", head+s, api.ParseError, len(head)+at)
		checkWrong(t, "program", head+"type T struct{};"+s, api.ParseError, len(head)+16+at)
		checkWrong(t, "program", head+"func(x T)m()T{return x};"+s, api.ParseError, len(head)+24+at)
	}
}

func TestDeclarationsWithMoreBehindThemInAProgram(t *testing.T) {
	for s := range readDecls {
		for _, behind := range append(slices.Clone(signs), "x", "package", "main", "struct", "interface", "return", "") {
			checkWrong(t, "program", head+s+"\n"+behind, api.ParseError, len(head+s)+1)
		}
	}
}

// reservedPlaces are texts with names. No reserved word can stand there.
var reservedPlaces = []string{
	"type @ struct{};", "type T[@ A] struct{};", "type T[a @] struct{};", "type T[a A, @ B] struct{};", "type T[a A, b @] struct{};", "type T[a A[@]] struct{};",
	"type T struct {@ T;};", "type T struct {f @;};", "type T struct {f T; @ T;};", "type T struct {f T[@];};",
	"type T interface {@() T;};", "type T interface {m[@ A]() T;};", "type T interface {m[a @]() T;};", "type T interface {m(@ T) T;};", "type T interface {m(x @) T;};", "type T interface {m(x T, @ T) T;};", "type T interface {m() @;};", "type T interface {m() T; @() T;};", "type T interface {m() T[@];};",
	"func (@ T) m() T {return x};", "func (x @) m() T {return x};", "func (x T[@]) m() T {return x};", "func (x T[a, @]) m() T {return x};", "func (x T) @() T {return x};", "func (x T) m[@ A]() T {return x};", "func (x T) m(@ T) T {return x};", "func (x T) m() @ {return x};", "func (x T) m() T {return @};", "func (x T) m() T {return x.@};", "func (x T) m() T {return @{}};",
}

func TestReservedWordsAreNoNames(t *testing.T) {
	for _, s := range reservedPlaces {
		at := strings.Index(s, "@")
		for _, word := range append(slices.Clone(reservedWords), "_") {
			wrong := strings.Replace(s, "@", word, 1)
			checkWrong(t, "decl", wrong, api.ParseError, at)
			checkWrong(t, "program", head+wrong+tail, api.ParseError, len(head)+at)
		}
		for _, name := range []string{"packages", "main_", "Type", "struct1", "interfaces", "FUNC", "returns", "a_1", "end", "nil", "var", "T", "x"} {
			if d, err := Decl(strings.Replace(s, "@", name, 1)); err != nil || !decl.RightDecl(d) {
				t.Errorf("the name %s in %s: %v", name, s, err)
			}
		}
	}
	for _, word := range reservedWords {
		checkWrong(t, "program", head+"func main(){_="+word+"}", api.ParseError, len(head)+14)
	}
}

func TestErrorsOfTokensComeFirst(t *testing.T) {
	for s, at := range map[string]int{
		"package main; $": 14, "/": 0, "x /": 2, "package main; func main() { _ = x } 1": 36, "package main; func main() { _ = 1 }": 32, "type type $0": 10, "é": 0, "type T struct {}; \x00": 18, "func (x *T) m() T { return x };": 8, "package main; func main() { _ = x } // x\n\"": 41, "type T struct { f T }\v": 21,
		strings.Repeat(";", api.MaxText+1): api.MaxText, "$" + strings.Repeat(" ", api.MaxText): api.MaxText, head + tail + strings.Repeat(" ", api.MaxText): api.MaxText, "type T struct{};" + strings.Repeat("\n", api.MaxText): api.MaxText,
	} {
		checkWrong(t, "program", s, api.LexError, at)
		checkWrong(t, "decl", s, api.LexError, at)
	}
}

func TestErrorsAreFoundByTheirCodes(t *testing.T) {
	for i, read := range []func(s string) error{
		func(s string) error { _, err := Program(s); return err },
		func(s string) error { _, err := Decl(s); return err },
	} {
		if err := read("."); !errors.Is(err, api.ParseError) || errors.Is(err, api.LexError) || err.Error() != "error 2" {
			t.Error(i, err)
		}
		if err := read("$"); !errors.Is(err, api.LexError) || errors.Is(err, api.ParseError) || err.Error() != "error 1" {
			t.Error(i, err)
		}
	}
}

func TestTheLongestTexts(t *testing.T) {
	filled := func(front, part, behind string) string {
		return front + strings.Repeat(part, (api.MaxText-len(front+behind))/len(part)) + behind
	}
	for _, s := range []string{
		filled("type T struct{", "f T;", "};"), filled("type T interface{", "m()T;", "};"), filled("type T[a A", ",a A", "]struct{};"),
		filled("func(x T[a", ",a", "])m()T{return x};"), filled("func(x T)m(x T", ",x T", ")T{return x};"), filled("func(x T)m()T{return x", ".f", "};"), filled("func(x T)m()T[a", ",a", "]{return x};"),
		"type T struct{f " + strings.Repeat("T[", 20000) + "T" + strings.Repeat("]", 20000) + ";};", "func(x T)m()T{return " + strings.Repeat("T{", 20000) + strings.Repeat("}", 20000) + "};",
	} {
		d, err := Decl(s)
		if err != nil {
			t.Fatalf("%.40q: %v", s, err)
		}
		if pieces := piecesOfDecl(d); textOf(pieces) != s {
			t.Errorf("%.40q is not read as it is written", s)
		}
		checkWrong(t, "decl", s[:len(s)-1], api.ParseError, len(s)-1)
	}
	for _, part := range []string{"type T struct{};", "func(x T)m()T{return x};"} {
		s := filled(head, part, "")
		checkWrong(t, "program", s, api.ParseError, len(s))
	}
	for _, s := range []string{filled("type T struct{", "f T;", ""), filled("type T interface{m(", "x T,", ""), filled("type T[", "a A,", ""), filled("func(x T[", "a,", ""), filled("type T struct{f ", "T[", ""), filled("func(x T)m()T{return ", "T{", "")} {
		checkWrong(t, "decl", s, api.ParseError, len(s))
		checkWrong(t, "program", s, api.ParseError, 0)
	}
	for _, sign := range append(slices.Clone(signs), "type ", "func ", "package ", "func(") {
		s := filled("", sign, "")
		checkWrong(t, "program", s, api.ParseError, strings.Count(s[:8], "package")*8)
	}
}

// P8.2

// readDecls are declarations, with what they are read as.
var readDecls = map[string]api.Decl{
	"type T struct {};":                    structure(5, "T", nil),
	"type T struct{f U;};":                 structure(5, "T", nil, param(14, "f", of(16, "U"))),
	"type T struct { f U; g V[a, T]; };":   structure(5, "T", nil, param(16, "f", of(18, "U")), param(21, "g", of(23, "V", of(25, "a"), of(28, "T")))),
	"type T struct { f f; f f; T T; };":    structure(5, "T", nil, param(16, "f", of(18, "f")), param(21, "f", of(23, "f")), param(26, "T", of(28, "T"))),
	"type T[a A] struct {};":               structure(5, "T", []api.Formal{formal(7, "a", of(9, "A"))}),
	"type T[a A, b B[a]] struct { f a; };": structure(5, "T", []api.Formal{formal(7, "a", of(9, "A")), formal(12, "b", of(14, "B", of(16, "a")))}, param(29, "f", of(31, "a"))),
	"type T[a a, a T[a], b b] struct {};":  structure(5, "T", []api.Formal{formal(7, "a", of(9, "a")), formal(12, "a", of(14, "T", of(16, "a"))), formal(20, "b", of(22, "b"))}),

	"type I interface {};":                         specification(5, "I", nil),
	"type I interface{m()T;};":                     specification(5, "I", nil, sig(17, "m", nil, nil, of(20, "T"))),
	"type I interface { m(x T) U[a]; };":           specification(5, "I", nil, sig(19, "m", nil, []api.Param{param(21, "x", of(23, "T"))}, of(26, "U", of(28, "a")))),
	"type I[a A] interface { m() a; n() T; };":     specification(5, "I", []api.Formal{formal(7, "a", of(9, "A"))}, sig(24, "m", nil, nil, of(28, "a")), sig(31, "n", nil, nil, of(35, "T"))),
	"type I interface { m[b B](x a, y b) T; };":    specification(5, "I", nil, sig(19, "m", []api.Formal{formal(21, "b", of(23, "B"))}, []api.Param{param(26, "x", of(28, "a")), param(31, "y", of(33, "b"))}, of(36, "T"))),
	"type I interface { m[b B, c C[b]]() T[c]; };": specification(5, "I", nil, sig(19, "m", []api.Formal{formal(21, "b", of(23, "B")), formal(26, "c", of(28, "C", of(30, "b")))}, nil, of(36, "T", of(38, "c")))),
	"type I interface { m() T; m() T; };":          specification(5, "I", nil, sig(19, "m", nil, nil, of(23, "T")), sig(26, "m", nil, nil, of(30, "T"))),

	"func(x T)m()U{return y};":                                   method(7, "x", "T", nil, sig(9, "m", nil, nil, of(12, "U")), variable(21, "y")),
	"func (x T[a]) m() a { return x.f };":                        method(8, "x", "T", []string{"a"}, sig(14, "m", nil, nil, of(18, "a")), field(31, "f", variable(29, "x"))),
	"func (x T[a, b, a]) m(y a, z b) U { return T[a]{} };":       method(8, "x", "T", []string{"a", "b", "a"}, sig(20, "m", nil, []api.Param{param(22, "y", of(24, "a")), param(27, "z", of(29, "b"))}, of(32, "U")), lit(of(43, "T", of(45, "a")))),
	"func (x T) m[c C, d D]() U[c] { return x.m[d, c](y) };":     method(8, "x", "T", nil, sig(11, "m", []api.Formal{formal(13, "c", of(15, "C")), formal(18, "d", of(20, "D"))}, nil, of(25, "U", of(27, "c"))), call(41, "m", []api.Type{of(43, "d"), of(46, "c")}, variable(39, "x"), variable(49, "y"))),
	"func (x x[x]) x[x x](x x) x { return x.x[x](x).(x) };":      method(8, "x", "x", []string{"x"}, sig(14, "x", []api.Formal{formal(16, "x", of(18, "x"))}, []api.Param{param(21, "x", of(23, "x"))}, of(26, "x")), assert(47, of(48, "x"), call(39, "x", []api.Type{of(41, "x")}, variable(37, "x"), variable(44, "x")))),
	"//\nfunc // (\n( x\tT\r) m ( ) T\n{\nreturn T { x } } ;//;": method(17, "x", "T", nil, sig(21, "m", nil, nil, of(27, "T")), lit(of(38, "T"), variable(42, "x"))),
	"\ntype//\nT//\n[a A]struct//{}\n{f T//;\n;};//}":            structure(8, "T", []api.Formal{formal(13, "a", of(15, "A"))}, param(29, "f", of(31, "T"))),
}

func TestDecl(t *testing.T) {
	for s, want := range readDecls {
		if got, err := Decl(s); err != nil || shown(got) != shown(want) {
			t.Errorf("Decl(%q) = %s, %v, want %s", s, shown(got), err, shown(want))
		}
	}
}

func TestDeclAndProgramReadDeclarationsAlike(t *testing.T) {
	for s := range readDecls {
		blanks := strings.Repeat(" ", len(head))
		want, err := Decl(blanks + s)
		if err != nil {
			t.Fatal(s, err)
		}
		// A comment at the end goes on to the line feed.
		p, err := Program(head + s + "\n" + tail)
		if err != nil || len(p.Decls) != 1 || shown(p.Decls[0]) != shown(want) {
			t.Errorf("the program with %q has %s, %v, want %s", s, shown(p.Decls), err, shown(want))
		}
	}
}

func TestTextsThatAreNoDeclaration(t *testing.T) {
	for s, at := range wrongDecls {
		checkWrong(t, "decl", s, api.ParseError, at)
		checkWrong(t, "decl", " // x\n"+s, api.ParseError, at+6)
	}
	for s, at := range map[string]int{
		"": 0, " ": 1, "// type": 7, "x": 0, "package": 0, "main": 0, "struct {};": 0, "interface {};": 0, "return x": 0, "}": 0, ";": 0, "_": 0, "T struct {};": 0, "(x T) m() T { return x };": 0, "package main; type T struct {};": 0, "package main; func main() { _ = x }": 0,
		"func main": 5, "func main() { _ = x }": 5, "func main() {}": 5, "func main() T { return x };": 5, "m() T": 0, "x.f": 0,
	} {
		checkWrong(t, "decl", s, api.ParseError, at)
	}
	for s := range readDecls {
		for _, behind := range slices.Concat(signs, reservedWords, []string{"x", "type T struct {};", "func main() { _ = x }"}) {
			checkWrong(t, "decl", s+"\n"+behind, api.ParseError, len(s)+1)
		}
	}
}

func TestTree(t *testing.T) {
	s := "package main; type T[a A] struct {f a;}; func (x T[a]) m() a {return x.f}; func main() {_ = T[A]{y}.m()}"
	want := api.Program{
		Decls: []api.Decl{
			structure(19, "T", []api.Formal{formal(21, "a", of(23, "A"))}, param(34, "f", of(36, "a"))),
			method(49, "x", "T", []string{"a"}, sig(55, "m", nil, nil, of(59, "a")), field(71, "f", variable(69, "x"))),
		},
		Main: call(100, "m", nil, lit(of(92, "T", of(94, "A")), variable(97, "y"))),
	}
	checkProgram(t, s, want)
	for _, wrong := range []string{"", "x", "$", s + ";", s[:len(s)-1], "type T struct {};", "T{}", s + "/", strings.Repeat(" ", api.MaxText+1)} {
		if got, ok := Tree(wrong); ok || shown(got) != shown(api.Program{}) {
			t.Errorf("Tree(%.80q) = %.80s, %t", wrong, shown(got), ok)
		}
	}
}

func TestResultsAreNewMemory(t *testing.T) {
	const s = head + "type T[a A,b B]struct{f T[a,U[b]];g b;};type I[a A]interface{m[b B](x a,y T[b])T[a];n()a;};func(x T[a,b])m[c C](y a)U[c]{return x.m[c](y,T[a]{z}).(V[c]).f};func main(){_=x.m[a](T[b]{y,z})}"
	p, err := Program(s)
	again, errAgain := Program(s)
	tree, ok := Tree(s)
	if err != nil || errAgain != nil || !ok {
		t.Fatal(err, errAgain, ok)
	}
	want := shown(p)
	number(reflect.ValueOf(&p).Elem(), new(int))
	checkNumbers(t, reflect.ValueOf(p), new(int))
	third, _ := Program(s)
	if shown(again) != want || shown(tree) != want || shown(third) != want {
		t.Error("another result changed")
	}
	for s := range readDecls {
		d, err := Decl(s)
		again, errAgain := Decl(s)
		want := shown(d)
		number(reflect.ValueOf(&d).Elem(), new(int))
		checkNumbers(t, reflect.ValueOf(d), new(int))
		if err != nil || errAgain != nil || shown(again) != want {
			t.Error("another result changed:", shown(again))
		}
	}
}

// number writes 0, 1, 2 and so on into the numbers and the texts in v, up to
// the capacities of its lists.
func number(v reflect.Value, count *int) {
	switch v.Kind() {
	case reflect.Int:
		v.SetInt(int64(*count))
		*count++
	case reflect.String:
		v.SetString(strconv.Itoa(*count))
		*count++
	case reflect.Struct:
		for i := range v.NumField() {
			number(v.Field(i), count)
		}
	case reflect.Slice:
		for i := range v.Cap() {
			number(v.Slice(0, v.Cap()).Index(i), count)
		}
	}
}

// checkNumbers checks that what number wrote is still there: no two lists share
// memory.
func checkNumbers(t *testing.T, v reflect.Value, count *int) {
	t.Helper()
	switch v.Kind() {
	case reflect.Int, reflect.String:
		if got := fmt.Sprint(v); got != strconv.Itoa(*count) {
			t.Fatalf("the parts %s and %d share memory", got, *count)
		}
		*count++
	case reflect.Struct:
		for i := range v.NumField() {
			checkNumbers(t, v.Field(i), count)
		}
	case reflect.Slice:
		for i := range v.Cap() {
			checkNumbers(t, v.Slice(0, v.Cap()).Index(i), count)
		}
	}
}

// Programs are compared with the tokens that they are read from: with those
// tokens they can be written, and with no others.

// piece is a token that a program is written with. It has the offset of the
// part of the program that it begins, or -1.
type piece struct {
	text string
	at   int
}

// writer writes pieces.
type writer struct{ pieces []piece }

// bare writes pieces without offsets.
func (w *writer) bare(texts ...string) {
	for _, text := range texts {
		w.name(text, -1)
	}
}

func (w *writer) name(text string, at int) { w.pieces = append(w.pieces, piece{text, at}) }

// enclosed writes all items of a list, with commas between them, and with a sign
// in front and one behind.
func enclosed[T any](w *writer, signs string, l []T, write func(T)) {
	w.bare(signs[:1])
	for i, item := range l {
		if i > 0 {
			w.bare(",")
		}
		write(item)
	}
	w.bare(signs[1:])
}

// bracketed writes a list in brackets; nothing, if it is empty.
func bracketed[T any](w *writer, l []T, write func(T)) {
	if len(l) > 0 {
		enclosed(w, "[]", l, write)
	}
}

// inBlock writes items in braces, with a semicolon behind each.
func inBlock[T any](w *writer, l []T, write func(T)) {
	w.bare("{")
	for _, item := range l {
		write(item)
		w.bare(";")
	}
	w.bare("}")
}

func (w *writer) typ(t api.Type) {
	w.name(t.Name, t.At)
	bracketed(w, t.Args, w.typ)
}

func (w *writer) formal(f api.Formal) {
	w.name(f.Name, f.At)
	w.typ(f.Bound)
}

func (w *writer) param(p api.Param) {
	w.name(p.Name, p.At)
	w.typ(p.Type)
}

func (w *writer) sig(s api.Sig) {
	w.name(s.Name, s.At)
	bracketed(w, s.Formals, w.formal)
	enclosed(w, "()", s.Params, w.param)
	w.typ(s.Result)
}

func (w *writer) expr(e api.Expr) {
	begin := len(w.pieces)
	switch e.Kind {
	case api.Var:
		w.name(e.Name, e.At)
	case api.Lit:
		w.typ(e.Type)
		enclosed(w, "{}", e.Kids, w.expr)
		w.pieces[begin].at = e.At
	default:
		w.expr(e.Kids[0])
		w.bare(".")
		w.behindDot(e)
	}
}

// behindDot writes what a selection, a call or an assertion has behind the dot.
func (w *writer) behindDot(e api.Expr) {
	switch e.Kind {
	case api.Field:
		w.name(e.Name, e.At)
	case api.Call:
		w.name(e.Name, e.At)
		bracketed(w, e.Targs, w.typ)
		enclosed(w, "()", e.Kids[1:], w.expr)
	case api.Assert:
		w.name("(", e.At)
		w.typ(e.Type)
		w.bare(")")
	}
}

func (w *writer) decl(d api.Decl) {
	if d.Kind == api.Method {
		w.bare("func", "(", d.Recv)
		w.name(d.Name, d.At)
		bracketed(w, d.Vars, func(name string) { w.bare(name) })
		w.bare(")")
		w.sig(d.Sig)
		w.bare("{", "return")
		w.expr(d.Body)
		w.bare("}", ";")
		return
	}
	w.bare("type")
	w.name(d.Name, d.At)
	bracketed(w, d.Formals, w.formal)
	switch d.Kind {
	case api.Struct:
		w.bare("struct")
		inBlock(w, d.Fields, w.param)
	case api.Interface:
		w.bare("interface")
		inBlock(w, d.Sigs, w.sig)
	}
	w.bare(";")
}

func piecesOfDecl(d api.Decl) []piece {
	w := &writer{}
	w.decl(d)
	return w.pieces
}

func piecesOfProgram(p api.Program) []piece {
	w := &writer{}
	w.bare("package", "main", ";")
	for _, d := range p.Decls {
		w.decl(d)
	}
	w.bare("func", "main", "(", ")", "{", "_", "=")
	w.expr(p.Main)
	w.bare("}")
	return w.pieces
}

// textOf returns the shortest text that has pieces as its tokens.
func textOf(pieces []piece) string {
	var b strings.Builder
	wasWord := false
	for _, p := range pieces {
		isWord := !slices.Contains(signs, p.text)
		if wasWord && isWord {
			b.WriteByte(' ')
		}
		b.WriteString(p.text)
		wasWord = isWord
	}
	return b.String()
}

// checkRead checks that a text is read, that what is read is right, and that it
// has all tokens of the text, with their offsets.
func checkRead(t *testing.T, rule, s string) {
	t.Helper()
	var pieces []piece
	var err error
	right := false
	if rule == "decl" {
		var d api.Decl
		if d, err = Decl(s); err == nil {
			pieces, right = piecesOfDecl(d), decl.RightDecl(d)
		}
	} else {
		var p api.Program
		if p, err = Program(s); err == nil {
			pieces, right = piecesOfProgram(p), decl.Right(p)
		}
		if tree, ok := Tree(s); !ok || shown(tree) != shown(p) {
			t.Fatalf("Tree(%q) = %s, %t", s, shown(tree), ok)
		}
	}
	l, _ := lex.Tokens(s)
	if err != nil || !right || len(pieces) != len(l)-1 {
		t.Fatalf("the %s of %q has %d tokens of %d; right: %t, %v", rule, s, len(pieces), len(l)-1, right, err)
	}
	for i, p := range pieces {
		if p.text != l[i].Text || p.at >= 0 && p.at != l[i].At {
			t.Fatalf("the %s of %q has %s with the offset %d, want %s with %d", rule, s, p.text, p.at, l[i].Text, l[i].At)
		}
	}
}

// The rest compares the package with the rules of the chapters, written as a
// table.

// word stands for any name in the rules.
const word = "NAME"

// grammar has the rules of chapters 7 and 8, without brackets and braces that
// stand for repetition. Of the ways of a rule, the first one leads to the end.
var grammar = map[string][]string{
	"<program>":   {"package main ; <decls> func main ( ) { _ = <expr> }"},
	"<decls>":     {"", "<decl> <decls>"},
	"<decl>":      {"type NAME <formals> <struct> ;", "type NAME <formals> <interface> ;", "func ( NAME NAME <vars> ) <sig> { return <expr> } ;"},
	"<struct>":    {"struct { <fields> }"},
	"<fields>":    {"", "NAME <type> ; <fields>"},
	"<interface>": {"interface { <sigs> }"},
	"<sigs>":      {"", "<sig> ; <sigs>"},
	"<formals>":   {"", "[ NAME <type> <pairs> ]"},
	"<pairs>":     {"", ", NAME <type> <pairs>"},
	"<vars>":      {"", "[ NAME <names> ]"},
	"<names>":     {"", ", NAME <names>"},
	"<sig>":       {"NAME <formals> ( <params> ) <type>"},
	"<params>":    {"", "NAME <type> <pairs>"},
	"<type>":      {"NAME", "NAME <targs>"},
	"<targs>":     {"[ <type> <types> ]"},
	"<types>":     {"", ", <type> <types>"},
	"<expr>":      {"<first> <rests>"},
	"<first>":     {"NAME", "NAME { <args> }", "NAME <targs> { <args> }"},
	"<rests>":     {"", ". <rest> <rests>"},
	"<rest>":      {"NAME", "NAME ( <args> )", "NAME <targs> ( <args> )", "( <type> )"},
	"<args>":      {"", "<expr> <exprs>"},
	"<exprs>":     {"", ", <expr> <exprs>"},
}

// kinds are all kinds of tokens: NAME, reserved words, and signs.
var kinds = slices.Concat([]string{word}, reservedWords, signs)

// state holds all that may follow some tokens: each item is a list of words of
// the rules that begins with a token, or is empty.
type state map[string]bool

// expect adds what begins with a list of words, whose first one may be a rule.
func (x state) expect(list string) {
	first, rest, _ := strings.Cut(list, " ")
	ways, isRule := grammar[first]
	if !isRule {
		x[list] = true
	}
	for _, way := range ways {
		x.expect(strings.TrimSpace(way + " " + rest))
	}
}

// after returns what may follow when a token was read, too; nothing, if it
// cannot stand there.
func (x state) after(kind string) state {
	next := state{}
	for list := range x {
		if first, rest, _ := strings.Cut(list, " "); first == kind {
			next.expect(rest)
		}
	}
	return next
}

// key is the same for the same states only.
func (x state) key() string {
	return strings.Join(slices.Sorted(maps.Keys(x)), "|")
}

// end returns tokens by which what was read becomes a whole.
func (x state) end() []string {
	return finished(slices.Sorted(maps.Keys(x))[0])
}

// finished returns the tokens of a list of words, each rule in its first way.
func finished(list string) []string {
	var l []string
	for _, w := range strings.Fields(list) {
		if ways, isRule := grammar[w]; isRule {
			l = append(l, finished(ways[0])...)
		} else {
			l = append(l, w)
		}
	}
	return l
}

// written returns a text with tokens of some kinds, each one after one of the
// gaps. Its names all differ.
func written(list []string, gaps []string) string {
	var b strings.Builder
	for i, kind := range list {
		b.WriteString(gaps[i%len(gaps)])
		b.WriteString(kind)
		if kind == word {
			b.WriteString(strconv.Itoa(i))
		}
	}
	return b.String()
}

// everyGap are lists of what stands in front of the tokens of a text.
var everyGap = [][]string{{" "}, {" ", "//.\n", "\t\r\n", "// x[\n//\n", "\n"}}

// everyState calls do for each state to which at most n tokens lead, with the
// fewest ones that do.
func everyState(rule string, n int, do func(list []string, x state)) int {
	type place struct {
		list []string
		x    state
	}
	start := state{}
	start.expect("<" + rule + ">")
	seen := map[string]bool{start.key(): true}
	places := []place{{nil, start}}
	for i := 0; i < len(places); i++ {
		p := places[i]
		do(p.list, p.x)
		for _, kind := range kinds {
			next := p.x.after(kind)
			if key := next.key(); len(next) > 0 && len(p.list) < n && !seen[key] {
				seen[key] = true
				places = append(places, place{append(slices.Clone(p.list), kind), next})
			}
		}
	}
	return len(places)
}

// lengths are the most tokens that lead to the states that are tried. From some
// length on all later states differ from these by deeper nesting only.
var lengths = map[string]int{"decl": 27, "program": 28}

func TestEveryStateIsReadOn(t *testing.T) {
	for rule, n := range lengths {
		count := everyState(rule, n, func(list []string, x state) {
			whole := append(slices.Clone(list), x.end()...)
			for _, gaps := range everyGap {
				checkRead(t, rule, written(whole, gaps)+" // x")
			}
		})
		t.Log("the rule", rule, "has", count, "states")
		if count < 1000 {
			t.Error("these are too few")
		}
	}
}

func TestEveryStateHasItsErrors(t *testing.T) {
	for rule, n := range lengths {
		everyState(rule, n, func(list []string, x state) {
			for i, gaps := range everyGap {
				s := written(list, gaps)
				if !x[""] { // End cannot stand behind it
					checkWrong(t, rule, s, api.ParseError, len(s))
					checkWrong(t, rule, s+" // x", api.ParseError, len(s)+5)
				}
				for k, kind := range kinds {
					if len(x.after(kind)) > 0 {
						continue
					}
					behind := []string{"", " ;", " a", " }", " ] (", " func main", " type T struct {};"}[(k+i)%7]
					checkWrong(t, rule, s+written([]string{kind}, []string{" "})+behind, api.ParseError, len(s)+1)
				}
			}
		})
	}
}

// chooser takes ways of rules, which depend on the number that it begins with.
type chooser struct {
	number uint64
	left   int // how many rules it may still take in another way than the first
}

// finished returns the tokens of a list of words, each rule in some way.
func (c *chooser) finished(list string) []string {
	var l []string
	for _, w := range strings.Fields(list) {
		ways, isRule := grammar[w]
		if !isRule {
			l = append(l, w)
			continue
		}
		c.number = c.number*6364136223846793005 + 1442695040888963407
		i := int(c.number>>33) % len(ways)
		if c.left--; c.left < 0 {
			i = 0
		}
		l = append(l, c.finished(ways[i])...)
	}
	return l
}

// chosen calls do with the tokens of n programs or declarations.
func chosen(rule string, n int, do func(list []string)) {
	for i := range n {
		c := &chooser{number: uint64(i), left: i % 300}
		list := c.finished("<" + rule + ">")
		if rule == "program" && i%2 == 0 { // one with more declarations
			list = slices.Concat(list[:3], c.finished("<decl> <decl> <decls>"), list[3:])
		}
		do(list)
	}
}

func TestChosenTextsAreRead(t *testing.T) {
	for _, rule := range []string{"decl", "program"} {
		longest := 0
		chosen(rule, 3000, func(list []string) {
			longest = max(longest, len(list))
			for _, gaps := range everyGap {
				checkRead(t, rule, written(list, gaps))
			}
		})
		if longest < 200 {
			t.Error("the longest", rule, "has only", longest, "tokens")
		}
	}
}

func TestChosenTextsWithAnotherToken(t *testing.T) {
	for _, rule := range []string{"decl", "program"} {
		wrong := 0
		chosen(rule, 300, func(list []string) {
			x := state{}
			x.expect("<" + rule + ">")
			for i, kind := range list {
				other := kinds[(len(list)+i)%len(kinds)]
				if s := written(list[:i], []string{" "}); len(x.after(other)) == 0 {
					wrong++
					whole := s + written([]string{other}, []string{" "}) + written(list[i:], []string{" "})
					checkWrong(t, rule, whole, api.ParseError, len(s)+1)
				}
				x = x.after(kind)
			}
		})
		if wrong < 1000 {
			t.Error("there are only", wrong, "wrong texts")
		}
	}
}

// P8.3

func TestWhatIsReadIsRight(t *testing.T) {
	for s := range readDecls {
		d, err := Decl(s)
		if err != nil || !decl.RightDecl(d) {
			t.Errorf("%q is read as %s, which is not right, %v", s, shown(d), err)
		}
		p, err := Program(head + s + "\n" + s + "\nfunc main() { _ = T{x.f}.m[a](y).(T) }")
		if err != nil || !decl.Right(p) {
			t.Errorf("the program with %q is read as %s, which is not right, %v", s, shown(p), err)
		}
	}
	// Of the declarations that are chosen, checkRead tells it, too.
}

func TestProgramsDoNotDependOnBlanksAndComments(t *testing.T) {
	chosen("program", 600, func(list []string) {
		want, err := Program(written(list, []string{" "}))
		if err != nil {
			t.Fatal(list, err)
		}
		compact := textOf(piecesOfProgram(want))
		for _, s := range []string{
			compact, written(list, []string{"\n"}), written(list, []string{"\t", "\r"}), written(list, []string{"//\n"}), written(list, []string{" // package main; {\n "}), written(list, []string{"// é $ / \" \x00 // _\r\n"}), compact + " \n// }", "\n//" + compact + "\n" + compact + "//",
		} {
			got, err := Program(s)
			tree, ok := Tree(s)
			if err != nil || !ok || !decl.Same(got, want) || !decl.Same(tree, want) {
				t.Fatalf("%q is another program than %q: %v", s, compact, err)
			}
		}
	})
}

func TestDeclarationsDoNotDependOnBlanksAndComments(t *testing.T) {
	for s, want := range readDecls {
		compact := textOf(piecesOfDecl(want))
		for _, other := range []string{compact, " " + s, s + " ", "// type T struct {};\n" + s + "\n//", strings.ReplaceAll(compact, " ", "\r\n"), strings.ReplaceAll(compact, ";", "//;\n;"), strings.ReplaceAll(compact, " ", " // ;\n")} {
			if got, err := Decl(other); err != nil || !decl.SameDecl(got, want) {
				t.Errorf("%q is another declaration than %q: %v", other, s, err)
			}
		}
	}
}

func TestBlanksAndCommentsPartWords(t *testing.T) {
	for s, at := range map[string]int{
		"packagemain;": 0, "package main;typeT struct{};": 13, "package main;type Tstruct{};": 25, "package main;type T struct{fT;};": 29, "package main;funcmain(){_=x}": 13, "package main;func(xT)m()T{return x};": 20, "package main;func(x T)m()T{returnx};": 27, "package//main;\nfunc main(){_=x}": 15,
	} {
		checkWrong(t, "program", s, api.ParseError, at)
	}
}

// Rule 8: the functions may be called concurrently.

func TestConcurrentCalls(t *testing.T) {
	texts := []string{"", "$", head + tail, head + "type T[a A]struct{f a;};func(x T[a])m()a{return x.f};" + tail, "type T[a A, b B] interface { m[c C](x a) b; };", "func (x T[a]) m() a { return x.f };", "type T struct"}
	results := func(s string) string {
		p, err := Program(s)
		d, errDecl := Decl(s)
		tree, ok := Tree(s)
		return shown(p) + shown(d) + shown(tree) + fmt.Sprint(err, errDecl, ok)
	}
	wants := map[string]string{}
	for _, s := range texts {
		wants[s] = results(s)
	}
	var all sync.WaitGroup
	for range 8 {
		all.Go(func() {
			for range 200 {
				for s, want := range wants {
					if results(s) != want {
						t.Error("a concurrent call went wrong:", s)
						return
					}
				}
			}
		})
	}
	all.Wait()
}

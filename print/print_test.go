package print

import (
	"errors"
	"fmt"
	"reflect"
	"slices"
	"strconv"
	"strings"
	"sync"
	"testing"

	"castings/api"
	"castings/decl"
	"castings/lex"
	"castings/parse"
)

// of returns a type.
func of(name string, args ...api.Type) api.Type { return api.Type{Name: name, Args: args} }

func formalOf(name string, bound api.Type) api.Formal { return api.Formal{Name: name, Bound: bound} }

func paramOf(name string, t api.Type) api.Param { return api.Param{Name: name, Type: t} }

func variable(name string) api.Expr { return api.Expr{Kind: api.Var, Name: name} }

func call(name string, targs []api.Type, kids ...api.Expr) api.Expr {
	return api.Expr{Kind: api.Call, Name: name, Targs: targs, Kids: kids}
}

func lit(t api.Type, kids ...api.Expr) api.Expr {
	return api.Expr{Kind: api.Lit, Type: t, Kids: kids}
}

func field(kid api.Expr, name string) api.Expr {
	return api.Expr{Kind: api.Field, Name: name, Kids: []api.Expr{kid}}
}

func assert(kid api.Expr, t api.Type) api.Expr {
	return api.Expr{Kind: api.Assert, Type: t, Kids: []api.Expr{kid}}
}

func structure(name string, formals []api.Formal, fields ...api.Param) api.Decl {
	return api.Decl{Kind: api.Struct, Name: name, Formals: formals, Fields: fields}
}

func specification(name string, formals []api.Formal, sigs ...api.Sig) api.Decl {
	return api.Decl{Kind: api.Interface, Name: name, Formals: formals, Sigs: sigs}
}

func methodOf(recv, name string, vars []string, sig api.Sig, body api.Expr) api.Decl {
	return api.Decl{Kind: api.Method, Recv: recv, Name: name, Vars: vars, Sig: sig, Body: body}
}

func sigOf(name string, formals []api.Formal, params []api.Param, result api.Type) api.Sig {
	return api.Sig{Name: name, Formals: formals, Params: params, Result: result}
}

// written is a value with its text.
type written[T any] struct {
	value T
	text  string
}

var (
	oneFormal = []api.Formal{formalOf("a", of("Any"))}
	formalsAB = []api.Formal{formalOf("a", of("A")), formalOf("b", of("B", of("a"), of("b")))}
	paramsXYZ = []api.Param{paramOf("x", of("a")), paramOf("y", of("T", of("U", of("a"), of("b")))), paramOf("z", of("z"))}
	noParam   = sigOf("m", nil, nil, of("T"))
)

// sigs have all lists empty, with one item, and with more.
var sigs = []written[api.Sig]{
	{noParam, "m() T"},
	{sigOf("m", oneFormal, nil, of("T")), "m[a Any]() T"},
	{sigOf("m", nil, paramsXYZ[:1], of("T")), "m(x a) T"},
	{sigOf("a_1", nil, nil, of("List", of("b"))), "a_1() List[b]"},
	{sigOf("m", oneFormal, paramsXYZ[:1], of("a")), "m[a Any](x a) a"},
	{sigOf("m", formalsAB, paramsXYZ, of("Map", of("a"), of("List", of("b")))), "m[a A, b B[a, b]](x a, y T[U[a, b]], z z) Map[a, List[b]]"},
	{sigOf("n", formalsAB, paramsXYZ[:2], of("b")), "n[a A, b B[a, b]](x a, y T[U[a, b]]) b"},
	{sigOf("x", []api.Formal{formalOf("x", of("x")), formalOf("x", of("x"))}, []api.Param{paramOf("x", of("x")), paramOf("x", of("x"))}, of("x")), "x[x x, x x](x x, x x) x"},
}

// decls have all lists empty, with one item, and with more.
var decls = []written[api.Decl]{
	{structure("T", nil), "type T struct {\n};\n"},
	{structure("T", nil, paramOf("f", of("U"))), "type T struct {\n\tf U;\n};\n"},
	{structure("T", oneFormal), "type T[a Any] struct {\n};\n"},
	{structure("Pair", formalsAB, paramOf("l", of("a")), paramOf("r", of("Pair", of("b"), of("a"))), paramOf("Pair", of("A"))), "type Pair[a A, b B[a, b]] struct {\n\tl a;\n\tr Pair[b, a];\n\tPair A;\n};\n"},
	{structure("T", nil, paramOf("f", of("f")), paramOf("f", of("f"))), "type T struct {\n\tf f;\n\tf f;\n};\n"},

	{specification("I", nil), "type I interface {\n};\n"},
	{specification("I", nil, noParam), "type I interface {\n\tm() T;\n};\n"},
	{specification("I", oneFormal), "type I[a Any] interface {\n};\n"},
	{specification("I", formalsAB, sigs[5].value, noParam, sigs[3].value), "type I[a A, b B[a, b]] interface {\n\tm[a A, b B[a, b]](x a, y T[U[a, b]], z z) Map[a, List[b]];\n\tm() T;\n\ta_1() List[b];\n};\n"},

	{methodOf("x", "T", nil, noParam, variable("y")), "func (x T) m() T {\n\treturn y\n};\n"},
	{methodOf("x", "T", []string{"a"}, noParam, variable("y")), "func (x T[a]) m() T {\n\treturn y\n};\n"},
	{methodOf("this", "T", []string{"a", "b", "a"}, sigs[5].value, field(variable("x"), "f")), "func (this T[a, b, a]) m[a A, b B[a, b]](x a, y T[U[a, b]], z z) Map[a, List[b]] {\n\treturn x.f\n};\n"},
	{methodOf("x", "T", nil, noParam, lit(of("T"))), "func (x T) m() T {\n\treturn T{}\n};\n"},
	{methodOf("x", "T", nil, noParam, lit(of("T", of("a"), of("U", of("b"))), variable("x"), lit(of("U")), variable("y"))), "func (x T) m() T {\n\treturn T[a, U[b]]{x, U{}, y}\n};\n"},
	{methodOf("x", "T", nil, noParam, assert(variable("x"), of("U", of("a"), of("b")))), "func (x T) m() T {\n\treturn x.(U[a, b])\n};\n"},
	{methodOf("x", "T", nil, noParam, call("n", nil, variable("x"))), "func (x T) m() T {\n\treturn x.n()\n};\n"},
	{methodOf("x", "T", nil, noParam, call("Map", []api.Type{of("b")}, variable("x"), variable("f"))), "func (x T) m() T {\n\treturn x.Map[b](f)\n};\n"},
	{methodOf("x", "T", nil, noParam, field(assert(call("n", []api.Type{of("a"), of("T", of("b"))}, field(lit(of("U"), variable("z")), "f"), variable("x"), call("k", nil, variable("y"))), of("V")), "g")), "func (x T) m() T {\n\treturn U{z}.f.n[a, T[b]](x, y.k()).(V).g\n};\n"},
	{methodOf("x", "x", []string{"x"}, sigs[7].value, variable("x")), "func (x x[x]) x[x x, x x](x x, x x) x {\n\treturn x\n};\n"},
}

// programs have no declaration, one, and more.
var programs = []written[api.Program]{
	{api.Program{Main: lit(of("T"))}, "package main;\nfunc main() {\n\t_ = T{}\n}\n"},
	{api.Program{Main: call("m", []api.Type{of("a"), of("b")}, field(lit(of("T", of("a"), of("b")), variable("x")), "f"), variable("y"), variable("z"))}, "package main;\nfunc main() {\n\t_ = T[a, b]{x}.f.m[a, b](y, z)\n}\n"},
	{api.Program{Decls: []api.Decl{structure("T", nil)}, Main: variable("x")}, "package main;\ntype T struct {\n};\nfunc main() {\n\t_ = x\n}\n"},
	{
		api.Program{
			Decls: []api.Decl{methodOf("x", "T", nil, noParam, variable("y")), specification("I", oneFormal, noParam), structure("T", nil, paramOf("f", of("T"))), structure("T", nil), methodOf("x", "T", nil, noParam, variable("y"))},
			Main:  assert(lit(of("T")), of("I", of("T"))),
		},
		"package main;\nfunc (x T) m() T {\n\treturn y\n};\ntype I[a Any] interface {\n\tm() T;\n};\ntype T struct {\n\tf T;\n};\ntype T struct {\n};\nfunc (x T) m() T {\n\treturn y\n};\nfunc main() {\n\t_ = T{}.(I[T])\n}\n",
	},
}

// allPrograms returns the programs above, and one with each declaration.
func allPrograms() []written[api.Program] {
	l := slices.Clone(programs)
	for _, d := range decls {
		p := api.Program{Decls: []api.Decl{d.value}, Main: variable("x")}
		l = append(l, written[api.Program]{p, "package main;\n" + d.text + "func main() {\n\t_ = x\n}\n"})
	}
	return l
}

// checkText checks the text of a value.
func checkText[T any](t *testing.T, what string, print func(T) string, value T, want string) {
	t.Helper()
	if got := print(value); got != want {
		t.Errorf("%s = %.300q, want %.300q", what, got, want)
	}
}

// checkTexts checks the texts of values, as they are and with what must not
// matter: other offsets, empty lists for nil ones, and unused capacity.
func checkTexts[T any](t *testing.T, what string, print func(T) string, all []written[T]) {
	t.Helper()
	for _, w := range all {
		for i, v := range []T{w.value, changed(w.value, offsets), changed(w.value, emptyLists), changed(w.value, withRoom)} {
			checkText(t, what+" "+strconv.Itoa(i), print, v, w.text)
		}
	}
}

// changed returns a copy of v with new lists, to which change was applied: to
// all parts of v, each one behind its own.
func changed[T any](v T, change func(v reflect.Value)) T {
	change = deep(change)
	change(reflect.ValueOf(&v).Elem())
	return v
}

// deep returns a function that applies change to all parts of what it gets, and
// puts all lists into new memory.
func deep(change func(v reflect.Value)) func(v reflect.Value) {
	var apply func(v reflect.Value)
	apply = func(v reflect.Value) {
		switch v.Kind() {
		case reflect.Struct:
			for i := range v.NumField() {
				apply(v.Field(i))
			}
		case reflect.Slice:
			fresh := reflect.Zero(v.Type())
			for i := range v.Len() {
				fresh = reflect.Append(fresh, v.Index(i))
				apply(fresh.Index(i))
			}
			v.Set(fresh)
		}
		change(v)
	}
	return apply
}

// offsets gives all parts some offset.
func offsets(v reflect.Value) {
	if v.Kind() == reflect.Struct && v.FieldByName("At").IsValid() {
		v.FieldByName("At").SetInt(int64(v.NumField()) - 5)
	}
}

// emptyLists makes lists that are nil empty ones.
func emptyLists(v reflect.Value) {
	if v.Kind() == reflect.Slice && v.Len() == 0 {
		v.Set(reflect.MakeSlice(v.Type(), 0, 0))
	}
}

// withRoom gives all lists unused capacity, in which there is something else.
func withRoom(v reflect.Value) {
	if v.Kind() == reflect.Slice {
		room := reflect.MakeSlice(v.Type(), v.Len()+2, v.Len()+2)
		reflect.Copy(room, v)
		for i := v.Len(); i < room.Len(); i++ {
			deep(fill)(room.Index(i))
		}
		v.Set(room.Slice(0, v.Len()))
	}
}

// fill makes all texts "unused" and all numbers 1.
func fill(v reflect.Value) {
	switch v.Kind() {
	case reflect.String:
		v.SetString("unused")
	case reflect.Int:
		v.SetInt(1)
	}
}

// P9.1

func TestTheExampleOfTheChapter(t *testing.T) {
	got := Program(api.Program{Main: lit(of("T"))})
	if got != "package main;\nfunc main() {\n\t_ = T{}\n}\n" || strings.Count(got, "\n") != 4 {
		t.Errorf("%q", got)
	}
}

func TestSig(t *testing.T) { checkTexts(t, "Sig", Sig, sigs) }

func TestDecl(t *testing.T) { checkTexts(t, "Decl", Decl, decls) }

func TestProgram(t *testing.T) { checkTexts(t, "Program", Program, allPrograms()) }

func TestSignaturesInInterfacesAndMethods(t *testing.T) {
	for _, s := range sigs {
		checkText(t, "Decl", Decl, specification("I", nil, s.value), "type I interface {\n\t"+s.text+";\n};\n")
		checkText(t, "Decl", Decl, methodOf("x", "T", nil, s.value, variable("y")), "func (x T) "+s.text+" {\n\treturn y\n};\n")
	}
}

func TestLongLists(t *testing.T) {
	const n = 20000
	formals := slices.Repeat(oneFormal, n)
	params := slices.Repeat([]api.Param{paramOf("f", of("U", of("a")))}, n)
	args := slices.Repeat([]api.Type{of("a")}, n)
	items := func(text string) string { return text + strings.Repeat(", "+text, n-1) }
	lines := func(text string) string { return strings.Repeat("\t"+text+";\n", n) }
	checkText(t, "Sig", Sig, sigOf("m", formals, params, of("T", args...)), "m["+items("a Any")+"]("+items("f U[a]")+") T["+items("a")+"]")
	checkText(t, "Decl", Decl, structure("T", formals, params...), "type T["+items("a Any")+"] struct {\n"+lines("f U[a]")+"};\n")
	checkText(t, "Decl", Decl, specification("T", nil, slices.Repeat([]api.Sig{noParam}, n)...), "type T interface {\n"+lines("m() T")+"};\n")
	checkText(t, "Decl", Decl, methodOf("x", "T", slices.Repeat([]string{"a"}, n), noParam, lit(of("T"), slices.Repeat([]api.Expr{variable("x")}, n)...)), "func (x T["+items("a")+"]) m() T {\n\treturn T{"+items("x")+"}\n};\n")
	checkText(t, "Program", Program, api.Program{Decls: slices.Repeat([]api.Decl{structure("T", nil)}, n), Main: variable("x")}, "package main;\n"+strings.Repeat("type T struct {\n};\n", n)+"func main() {\n\t_ = x\n}\n")
}

func TestLongNamesAndDeepParts(t *testing.T) {
	const n = api.MaxText
	long := strings.Repeat("a_1", n)
	checkText(t, "Decl", Decl, structure(long, nil, paramOf(long, of(long))), "type "+long+" struct {\n\t"+long+" "+long+";\n};\n")
	bound, body := of("T"), variable("x")
	for range n - 1 {
		bound, body = of("T", bound), field(body, "f")
	}
	boundText, bodyText := strings.Repeat("T[", n-1)+"T"+strings.Repeat("]", n-1), "x"+strings.Repeat(".f", n-1)
	checkText(t, "Sig", Sig, sigOf("m", []api.Formal{formalOf("a", bound)}, []api.Param{paramOf("x", bound)}, bound), "m[a "+boundText+"](x "+boundText+") "+boundText)
	checkText(t, "Decl", Decl, methodOf("x", "T", nil, noParam, body), "func (x T) m() T {\n\treturn "+bodyText+"\n};\n")
	checkText(t, "Program", Program, api.Program{Main: body}, "package main;\nfunc main() {\n\t_ = "+bodyText+"\n}\n")
}

func TestArgumentsStayAsTheyAre(t *testing.T) {
	for _, w := range allPrograms() {
		p := changed(w.value, withRoom)
		before := shown(reflect.ValueOf(p))
		first := Program(p)
		for _, d := range p.Decls {
			Decl(d)
			Sig(d.Sig)
		}
		if after := shown(reflect.ValueOf(p)); after != before {
			t.Errorf("%q: %s is %s then", w.text, before, after)
		}
		if second := Program(p); second != first {
			t.Errorf("the text %q is %q then", first, second)
		}
	}
}

// shown returns all that is in v, up to the capacities of its lists.
func shown(v reflect.Value) string {
	var l []string
	switch v.Kind() {
	case reflect.Struct:
		for i := range v.NumField() {
			l = append(l, shown(v.Field(i)))
		}
	case reflect.Slice:
		for i := range v.Cap() {
			l = append(l, shown(v.Slice(0, v.Cap()).Index(i)))
		}
		l = append(l, strconv.Itoa(v.Len()))
	default:
		return fmt.Sprintf("%#v", v)
	}
	return "{" + strings.Join(l, " ") + "}"
}

func TestWhatIsNotRightDoesNoHarm(t *testing.T) {
	for kind := -1; kind < 7; kind++ {
		e := api.Expr{Kind: kind}
		for _, body := range []api.Expr{e, {Kind: api.Call, Kids: []api.Expr{e}}, {Kind: api.Lit, Kids: []api.Expr{e}}, {Kind: kind, Kids: []api.Expr{e, e}}} {
			d := api.Decl{Kind: kind, Formals: make([]api.Formal, 2), Fields: make([]api.Param, 2), Sigs: make([]api.Sig, 2), Vars: make([]string, 2), Body: body}
			Sig(d.Sig)
			Decl(d)
			Program(api.Program{Decls: []api.Decl{d, {}}, Main: body})
		}
	}
}

// P9.2

// checkFormat checks what Format returns for a text that is a program.
func checkFormat(t *testing.T, s, want string) {
	t.Helper()
	if got, err := Format(s); got != want || err != nil {
		t.Errorf("Format(%.100q) = %.300q, %v, want %.300q", s, got, err, want)
	}
}

// checkWrong checks that a text has an error, and that it is the one of
// parse.Program.
func checkWrong(t *testing.T, s string) api.Fault {
	t.Helper()
	got, err := Format(s)
	fault, ok := err.(api.Fault)
	if _, want := parse.Program(s); got != "" || !ok || want != error(fault) {
		t.Errorf("Format(%.100q) = %.100q, %#v, want the error %#v", s, got, err, want)
	}
	return fault
}

// spaced are the ways in which the tokens of a text are parted.
var spaced = []string{" ", "\n", "\r\n", "\t  \n\n", "//\n", " // type T struct {};\n", "//package main; \x00\xff\n\t"}

func TestFormat(t *testing.T) {
	for _, w := range allPrograms() {
		checkFormat(t, w.text, w.text)
		checkFormat(t, " \n"+w.text+"\n// x", w.text)
		checkFormat(t, strings.TrimSuffix(w.text, "\n"), w.text)
		for _, gap := range spaced {
			checkFormat(t, gap+strings.Join(textsOf(w.text), gap)+gap, w.text)
		}
	}
	checkFormat(t, "package main;type T[a A,b B[a]]struct{f a;g T[a,b];};type I interface{m[c C](x T,y c)c;n()T;};func(x T[a,b])m[c C](y c)U[c]{return x.m[c](y,T[a]{z}).(V[c]).f};func main(){_=T{x,y}}",
		"package main;\ntype T[a A, b B[a]] struct {\n\tf a;\n\tg T[a, b];\n};\ntype I interface {\n\tm[c C](x T, y c) c;\n\tn() T;\n};\nfunc (x T[a, b]) m[c C](y c) U[c] {\n\treturn x.m[c](y, T[a]{z}).(V[c]).f\n};\nfunc main() {\n\t_ = T{x, y}\n}\n")
	checkFormat(t, "package main; func (x T) m () T [ a ] { return x . m ( ) . f . ( T ) } ; func main ( ) { _ = x . f }",
		"package main;\nfunc (x T) m() T[a] {\n\treturn x.m().f.(T)\n};\nfunc main() {\n\t_ = x.f\n}\n")
}

func TestFormatOfTextsThatAreNoProgram(t *testing.T) {
	for s, want := range map[string]api.Fault{
		"": {Code: api.ParseError}, " // x": {Code: api.ParseError, At: 5}, "x": {Code: api.ParseError}, "T{}": {Code: api.ParseError}, "type T struct {};": {Code: api.ParseError}, "m() T": {Code: api.ParseError},
		"package main; x": {Code: api.ParseError, At: 14}, "package main;\n": {Code: api.ParseError, At: 14}, "package main; type main struct {};": {Code: api.ParseError, At: 19}, "package main; func main() { _ = }": {Code: api.ParseError, At: 32}, "package main; func main() { _ = x } x": {Code: api.ParseError, At: 36},
		"$": {Code: api.LexError}, "package main; func main() { _ = x } /": {Code: api.LexError, At: 36}, "x y $": {Code: api.LexError, At: 4}, "package main; type T struct {}; func main() { _ = T{1} }": {Code: api.LexError, At: 52}, "package main; func main() { _ = $0 }": {Code: api.LexError, At: 32}, "\xff": {Code: api.LexError},
		strings.Repeat(" ", api.MaxText): {Code: api.ParseError, At: api.MaxText}, strings.Repeat(" ", api.MaxText+1): {Code: api.LexError, At: api.MaxText}, programs[0].text + strings.Repeat(" ", api.MaxText): {Code: api.LexError, At: api.MaxText},
	} {
		if got := checkWrong(t, s); got != want {
			t.Errorf("Format(%.100q) has the error %v at %d, want %v at %d", s, got.Code, got.At, want.Code, want.At)
		}
	}
	for _, w := range allPrograms() {
		for i := range len(w.text) - 1 {
			checkWrong(t, w.text[:i])
			checkWrong(t, w.text[:i]+"$"+w.text[i:])
			checkWrong(t, w.text[:i]+" ] "+w.text[i:])
		}
	}
	if _, err := Format("$"); !errors.Is(err, api.LexError) || err.Error() != "error 1" {
		t.Error(err)
	}
}

func TestFormatOfTheLongestTexts(t *testing.T) {
	const front, behind = "package main;", "func main(){_=x}"
	filled := func(part string) (string, int) {
		n := (api.MaxText - len(front+behind)) / len(part)
		s := front + strings.Repeat(part, n) + behind
		return s + strings.Repeat("\n", api.MaxText-len(s)), n
	}
	for part, text := range map[string]string{
		"type T struct{};":         "type T struct {\n};\n",
		"type I interface{m()T;};": "type I interface {\n\tm() T;\n};\n",
		"func(x T)m()T{return x};": "func (x T) m() T {\n\treturn x\n};\n",
	} {
		s, n := filled(part)
		want := "package main;\n" + strings.Repeat(text, n) + "func main() {\n\t_ = x\n}\n"
		checkFormat(t, s, want)
		checkWrong(t, s+" ")
		// The text of a program can be longer than texts that are read.
		if got := checkWrong(t, want); got != (api.Fault{Code: api.LexError, At: api.MaxText}) {
			t.Error(got)
		}
	}
	deep := strings.Repeat("T{", 20000) + strings.Repeat("}", 20000)
	checkFormat(t, "package main;func main(){_="+deep+"}", "package main;\nfunc main() {\n\t_ = "+deep+"\n}\n")
}

// P9.3

// textsOf returns the texts of the tokens of a text.
func textsOf(s string) []string {
	l, _ := lex.Tokens(s)
	var texts []string
	for _, token := range l {
		if token.Kind != lex.End {
			texts = append(texts, token.Text)
		}
	}
	return texts
}

// What stands for a brace in front of lines, and behind them.
const (
	begin = "{{"
	end   = "}}"
)

// laidOut returns the text of a declaration or a program with some tokens: the
// chapter's lines, tabs and spaces, told by two tokens that follow each other.
func laidOut(texts []string) string {
	var b strings.Builder
	brace := strings.NewReplacer(begin, "{", end, "}")
	last, indent := "", ""
	for _, text := range blocks(texts) {
		if text == end {
			indent = ""
		}
		b.WriteString(gap(last, text, indent))
		b.WriteString(brace.Replace(text))
		if text == begin {
			indent = "\t"
		}
		last = text
	}
	return b.String() + "\n"
}

// blocks returns texts with begin and end for the braces that are not those of
// literals: behind struct, behind interface, and the first ones behind func.
func blocks(texts []string) []string {
	l := slices.Clone(texts)
	inLiterals, head := 0, false
	for i, text := range l {
		head = head || slices.Contains([]string{"func", "struct", "interface"}, text)
		switch {
		case text == "{" && head:
			l[i], head = begin, false
		case text == "{":
			inLiterals++
		case text == "}" && inLiterals == 0:
			l[i] = end
		case text == "}":
			inLiterals--
		}
	}
	return l
}

// gap returns what stands between two tokens.
func gap(last, next, indent string) string {
	isWord := func(text string) bool { return 'A' <= text[0] && text[0] <= 'z' && !strings.Contains("[]_", text) }
	switch {
	case last == "":
		return ""
	case last == begin || last == ";" || next == end:
		return "\n" + indent
	case last == "," || last == "=" || next == "=" || next == begin || last == "func" && next == "(":
		return " "
	case isWord(next) && (isWord(last) || last == ")" || last == "]"):
		return " "
	}
	return ""
}

// maker makes right programs, which depend on the number that it begins with.
type maker struct{ number uint64 }

// below returns a number from 0 to n - 1.
func (m *maker) below(n int) int {
	m.number = m.number*6364136223846793005 + 1442695040888963407
	return int(m.number>>33) % n
}

// few returns from no items to three.
func few[T any](m *maker, item func() T) []T {
	var l []T
	for range [6]int{0, 0, 0, 1, 2, 3}[m.below(6)] {
		l = append(l, item())
	}
	return l
}

func (m *maker) name() string {
	names := [...]string{"a", "b", "A", "T", "x", "y_1", "a_", "mains", "types", "Func", "packages", "Return"}
	return names[m.below(len(names))]
}

func (m *maker) typ() api.Type {
	t := api.Type{Name: m.name(), At: m.below(99)}
	if m.below(2) == 0 {
		t.Args = few(m, m.typ)
	}
	return t
}

func (m *maker) formal() api.Formal {
	return api.Formal{Name: m.name(), Bound: m.typ(), At: m.below(99)}
}

func (m *maker) param() api.Param {
	return api.Param{Name: m.name(), Type: m.typ(), At: m.below(99)}
}

func (m *maker) sig() api.Sig {
	return api.Sig{Name: m.name(), Formals: few(m, m.formal), Params: few(m, m.param), Result: m.typ(), At: m.below(99)}
}

func (m *maker) expr() api.Expr {
	e := variable(m.name())
	switch m.below(8) {
	case 0, 1:
		e = lit(m.typ(), few(m, m.expr)...)
	case 2:
		e = call(m.name(), few(m, m.typ), append([]api.Expr{m.expr()}, few(m, m.expr)...)...)
	case 3:
		e = field(m.expr(), m.name())
	case 4:
		e = assert(m.expr(), m.typ())
	}
	e.At = m.below(99)
	return e
}

func (m *maker) decl() api.Decl {
	d := structure(m.name(), few(m, m.formal), few(m, m.param)...)
	switch m.below(3) {
	case 0:
		d = specification(m.name(), few(m, m.formal), few(m, m.sig)...)
	case 1:
		d = methodOf(m.name(), m.name(), few(m, m.name), m.sig(), m.expr())
	}
	d.At = m.below(99)
	return d
}

func (m *maker) program() api.Program {
	return api.Program{Decls: few(m, m.decl), Main: m.expr()}
}

// made calls do with n programs.
func made(n int, do func(p api.Program)) {
	for i := range n {
		m := &maker{number: uint64(i)}
		do(m.program())
	}
}

// checkRead checks that the texts of a right program and of its declarations
// are laid out as the chapter tells, and are read as what they are texts of.
func checkRead(t *testing.T, p api.Program) {
	t.Helper()
	if !decl.Right(p) {
		t.Fatalf("%+v is not right", p)
	}
	s := Program(p)
	if got, err := parse.Program(s); err != nil || !decl.Same(got, p) {
		t.Fatalf("%q is read as %+v, %v, want %+v", s, got, err, p)
	}
	if want := laidOut(textsOf(s)); s != want {
		t.Fatalf("Program = %q, want %q", s, want)
	}
	for _, d := range p.Decls {
		s := Decl(d)
		if got, err := parse.Decl(s); err != nil || !decl.SameDecl(got, d) {
			t.Fatalf("%q is read as %+v, %v, want %+v", s, got, err, d)
		}
		if want := laidOut(textsOf(s)); s != want {
			t.Fatalf("Decl = %q, want %q", s, want)
		}
		d = specification("I", nil, d.Sigs...)
		for i, sig := range d.Sigs {
			if line := strings.Split(Decl(d), "\n")[i+1]; line != "\t"+Sig(sig)+";" {
				t.Fatalf("Sig = %q, but there is the line %q", Sig(sig), line)
			}
		}
	}
}

func TestTextsAreReadAsTheSamePrograms(t *testing.T) {
	longest := 0
	for _, w := range allPrograms() {
		checkRead(t, w.value)
	}
	made(10000, func(p api.Program) {
		checkRead(t, p)
		longest = max(longest, len(Program(p)))
	})
	if longest < 500 {
		t.Error("the longest text has only", longest, "bytes")
	}
}

func TestDifferentProgramsHaveDifferentTexts(t *testing.T) {
	first := map[string]api.Program{}
	made(10000, func(p api.Program) {
		s := Program(p)
		if other, found := first[s]; found && !decl.Same(p, other) {
			t.Fatalf("%q is the text of %+v and %+v", s, p, other)
		}
		first[s] = p
	})
	if len(first) < 5000 {
		t.Error("there are only", len(first), "different programs")
	}
}

// others changes v to what differs in one place, calls do, and changes it back.
func others(v reflect.Value, do func()) {
	old := reflect.ValueOf(v.Interface())
	try := func(other reflect.Value) {
		v.Set(other)
		do()
		v.Set(old)
	}
	switch v.Kind() {
	case reflect.Struct:
		for i := range v.NumField() {
			others(v.Field(i), do)
		}
	case reflect.Int:
		for kind := range 6 {
			try(reflect.ValueOf(kind))
		}
	case reflect.String:
		try(reflect.ValueOf("other"))
		try(reflect.ValueOf(old.String() + "_"))
	case reflect.Slice:
		n := v.Len()
		for i := range n {
			others(v.Index(i), do)
			without := reflect.AppendSlice(old.Slice3(0, i, i), old.Slice(i+1, n))
			try(without)
			try(reflect.AppendSlice(old.Slice3(0, i, i), old.Slice(max(i-1, 0), n)))
			try(reflect.Append(without.Slice3(0, n-1, n-1), old.Index(i)))
		}
	}
}

func TestChangedProgramsHaveOtherTexts(t *testing.T) {
	count := 0
	compare := func(p api.Program) {
		first, s := decl.Clone(p), Program(p)
		others(reflect.ValueOf(&p).Elem(), func() {
			if !decl.Right(p) {
				return
			}
			count++
			if same := decl.Same(p, first); (Program(p) == s) != same {
				t.Fatalf("%q is the text of %+v, and of %+v: %t", s, first, p, !same)
			}
			checkRead(t, p)
		})
	}
	for _, w := range allPrograms() {
		compare(decl.Clone(w.value))
	}
	made(40, compare)
	if count < 10000 {
		t.Error("there are only", count, "changes")
	}
}

func TestFormattingTwiceIsFormattingOnce(t *testing.T) {
	made(1000, func(p api.Program) {
		want := Program(p)
		texts := textsOf(want)
		for _, gap := range spaced {
			s := strings.Join(texts, gap)
			once, err := Format(s)
			twice, errTwice := Format(once)
			if once != want || err != nil || twice != once || errTwice != nil {
				t.Fatalf("Format(%q) = %q, %v; then %q, %v", s, once, err, twice, errTwice)
			}
		}
	})
}

// Rule 8: the functions may be called concurrently.

func TestConcurrentCalls(t *testing.T) {
	p := programs[3].value
	results := func() string {
		text, err := Format(programs[1].text)
		_, wrong := Format("package main; x")
		return Program(p) + Decl(p.Decls[0]) + Sig(sigs[5].value) + text + fmt.Sprint(err, wrong)
	}
	want := results()
	var all sync.WaitGroup
	for range 8 {
		all.Go(func() {
			for range 500 {
				if got := results(); got != want {
					t.Errorf("a concurrent call went wrong: %q", got)
					return
				}
			}
		})
	}
	all.Wait()
}

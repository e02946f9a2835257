package expr

import (
	"iter"
	"math"
	"slices"
	"strconv"
	"strings"
	"sync"
	"testing"

	"castings/api"
	"castings/types"
)

// most is the greatest number of parts of an expression.
const most = 1 << 16

// of returns a type.
func of(name string, args ...api.Type) api.Type {
	return api.Type{Name: name, Args: args}
}

// list returns types without Args.
func list(names ...string) []api.Type {
	var l []api.Type
	for _, s := range names {
		l = append(l, of(s))
	}
	return l
}

func variable(name string) api.Expr {
	return api.Expr{Kind: api.Var, Name: name}
}

func call(name string, targs []api.Type, kids ...api.Expr) api.Expr {
	return api.Expr{Kind: api.Call, Name: name, Targs: targs, Kids: kids}
}

func lit(t api.Type, kids ...api.Expr) api.Expr {
	return api.Expr{Kind: api.Lit, Type: t, Kids: kids}
}

func field(kid api.Expr, name string) api.Expr {
	return api.Expr{Kind: api.Field, Name: name, Kids: []api.Expr{kid}}
}

func assert(kid api.Expr, t api.Type) api.Expr {
	return api.Expr{Kind: api.Assert, Type: t, Kids: []api.Expr{kid}}
}

// group returns an expression, which is not right, with all given Kids.
func group(kids ...api.Expr) api.Expr {
	return api.Expr{Kids: kids}
}

// chain returns an expression of so many parts, each the only Kid of the one
// around it, with e innermost.
func chain(length int, e api.Expr) api.Expr {
	for range length - 1 {
		e = field(e, "f")
	}
	return e
}

// walk calls do with each expression in e, each in front of its Kids.
func walk(e *api.Expr, do func(e *api.Expr)) {
	do(e)
	for i := range e.Kids {
		walk(&e.Kids[i], do)
	}
}

// walkTypes calls do with each type in l, those in others included.
func walkTypes(l []api.Type, do func(t *api.Type)) {
	for i := range l {
		do(&l[i])
		walkTypes(l[i].Args, do)
	}
}

// numbered returns a new expression with the same fields but At: these are the
// numbers behind last.
func numbered(e api.Expr, last int) api.Expr {
	e = rebuilt(e, 0)
	next := func() int {
		last++
		return last
	}
	walk(&e, func(e *api.Expr) {
		e.At = next()
		e.Type.At = next()
		walkTypes(e.Type.Args, func(t *api.Type) { t.At = next() })
		walkTypes(e.Targs, func(t *api.Type) { t.At = next() })
	})
	return e
}

// rebuilt returns a copy of e in new memory, made without the package, in which
// each list has some unused capacity, filled with what can be recognised. Its
// empty lists are nil, if there is none.
func rebuilt(e api.Expr, room int) api.Expr {
	var kids []api.Expr
	for _, kid := range e.Kids {
		kids = append(kids, rebuilt(kid, room))
	}
	t := rebuiltTypes([]api.Type{e.Type}, room)[0]
	targs := rebuiltTypes(e.Targs, room)
	return api.Expr{Kind: e.Kind, Name: e.Name, Type: t, Targs: targs, Kids: roomy(kids, variable("unused"), room), At: e.At}
}

// rebuiltTypes is rebuilt for lists of types.
func rebuiltTypes(l []api.Type, room int) []api.Type {
	var fresh []api.Type
	for _, t := range l {
		fresh = append(fresh, api.Type{Name: t.Name, Args: rebuiltTypes(t.Args, room), At: t.At})
	}
	return roomy(fresh, of("unused"), room)
}

// roomy returns l with some unused capacity, filled with an item.
func roomy[T any](l []T, unused T, room int) []T {
	if room == 0 {
		return slices.Clip(l)
	}
	fresh := append(make([]T, 0, len(l)+room), l...)
	for i := range room {
		fresh[:cap(fresh)][len(l)+i] = unused
	}
	return fresh
}

// shown returns all fields of e, and what stands in the unused capacity.
func shown(e api.Expr) string {
	var text strings.Builder
	show1(&text, e)
	return text.String()
}

func show1(text *strings.Builder, e api.Expr) {
	text.WriteString(strconv.Itoa(e.Kind) + strconv.Quote(e.Name) + "@" + strconv.Itoa(e.At))
	text.WriteString("<" + shownTypes([]api.Type{e.Type}) + shownTypes(e.Targs) + ">(")
	for i, kid := range e.Kids[:cap(e.Kids)] {
		if i == len(e.Kids) {
			text.WriteString("|")
		}
		show1(text, kid)
	}
	text.WriteString(")")
}

// shownTypes is shown for lists of types.
func shownTypes(l []api.Type) string {
	s := "["
	for i, t := range l[:cap(l)] {
		if i == len(l) {
			s += "|"
		}
		s += strconv.Quote(t.Name) + "@" + strconv.Itoa(t.At) + shownTypes(t.Args)
	}
	return s + "]"
}

// everyCell calls do with the At of each expression and type in l, those in the
// unused capacity of lists included.
func everyCell(l []api.Expr, do func(at *int)) {
	l = l[:cap(l)]
	for i := range l {
		do(&l[i].At)
		do(&l[i].Type.At)
		everyTypeCell(l[i].Type.Args, do)
		everyTypeCell(l[i].Targs, do)
		everyCell(l[i].Kids, do)
	}
}

// everyTypeCell is everyCell for lists of types.
func everyTypeCell(l []api.Type, do func(at *int)) {
	l = l[:cap(l)]
	for i := range l {
		do(&l[i].At)
		everyTypeCell(l[i].Args, do)
	}
}

// spoil writes over all expressions and types in l.
func spoil(l []api.Expr) {
	for i := range l {
		spoil(l[i].Kids)
		spoilTypes(l[i].Targs)
		spoilTypes(l[i].Type.Args)
		l[i] = variable("spoilt")
	}
}

// spoilTypes is spoil for lists of types.
func spoilTypes(l []api.Type) {
	for i := range l {
		spoilTypes(l[i].Args)
		l[i] = of("spoilt")
	}
}

// checkFresh checks that no two lists in e share memory: each is written over,
// and then read again.
func checkFresh(t *testing.T, e api.Expr) {
	t.Helper()
	l := []api.Expr{e}
	count := 0
	everyCell(l, func(at *int) {
		*at = count
		count++
	})
	next := 0
	everyCell(l, func(at *int) {
		if *at != next {
			t.Errorf("part %d shares memory with part %d", next, *at)
		}
		next++
	})
}

// everyType returns all types of at most the size whose Names are of names.
func everyType(names []string, size int) []api.Type {
	var l []api.Type
	for _, s := range names {
		for _, args := range everyTypes(names, size-1) {
			l = append(l, of(s, args...))
		}
	}
	return l
}

// everyTypes returns all lists of types that together have at most the size.
func everyTypes(names []string, size int) [][]api.Type {
	l := [][]api.Type{nil}
	if size <= 0 {
		return l
	}
	for _, t := range everyType(names, size) {
		for _, rest := range everyTypes(names, size-types.Size(t)) {
			l = append(l, append([]api.Type{t}, rest...))
		}
	}
	return l
}

// everyExpr returns all right expressions of at most the size (the types in
// them count, too) whose names are of names.
func everyExpr(names []string, size int) []api.Expr {
	var l []api.Expr
	if size <= 0 {
		return l
	}
	for _, s := range names {
		l = append(l, variable(s))
		for _, kid := range everyExpr(names, size-1) {
			l = append(l, field(kid, s))
		}
		for _, targs := range everyTypes(names, size-2) {
			for _, kids := range everyKids(names, size-types.Size(of("", targs...))) {
				if len(kids) > 0 {
					l = append(l, call(s, targs, kids...))
				}
			}
		}
	}
	for _, t := range everyType(names, size-1) {
		for _, kids := range everyKids(names, size-1-types.Size(t)) {
			l = append(l, lit(t, kids...))
			if len(kids) == 1 {
				l = append(l, assert(kids[0], t))
			}
		}
	}
	return l
}

// everyKids returns all lists of right expressions that together have at most
// the size.
func everyKids(names []string, size int) [][]api.Expr {
	l := [][]api.Expr{nil}
	for _, e := range everyExpr(names, size) {
		for _, rest := range everyKids(names, size-bulk(e)) {
			l = append(l, append([]api.Expr{e}, rest...))
		}
	}
	return l
}

// bulk counts the expressions and types that e consists of.
func bulk(e api.Expr) int {
	count := 0
	walk(&e, func(e *api.Expr) {
		count += types.Size(of("", e.Targs...))
		if e.Type.Name != "" {
			count += types.Size(e.Type)
		}
	})
	return count
}

// size counts the expressions that e consists of.
func size(e api.Expr) int {
	count := 0
	walk(&e, func(*api.Expr) { count++ })
	return count
}

// sample is x.f.(I[a]).m[a, T[b]](T{}, y).
func sample() api.Expr {
	x := assert(field(variable("x"), "f"), of("I", of("a")))
	return call("m", []api.Type{of("a"), of("T", of("b"))}, x, lit(of("T")), variable("y"))
}

// full returns an expression, which is not right, all of whose fields are set.
func full() api.Expr {
	kid := api.Expr{Kind: api.Lit, Name: "k", Type: of("K", of("L")), Targs: list("M"), Kids: []api.Expr{variable("x")}}
	return api.Expr{Kind: api.Call, Name: "n", Type: of("T", of("A"), of("B")), Targs: []api.Type{of("C", of("D")), of("E")}, Kids: []api.Expr{kid, variable("y")}}
}

// samples are expressions of which no two are the same.
func samples() []api.Expr {
	x := variable("x")
	l := []api.Expr{
		{}, {Kind: -1}, {Kind: 6}, {Name: "x"}, {Type: of("x")}, {Targs: list("x")}, {Kids: []api.Expr{x}}, {Kids: []api.Expr{{}}}, {Targs: list("")}, {Type: of("", of(""))},
		x, variable("y"), variable(""), variable("\xff"), variable("\ufffd"), variable("x.f"),
		field(x, "f"), field(x, "g"), field(field(x, "f"), "f"), field(variable("y"), "f"), field(x, ""),
		assert(x, of("f")), assert(x, of("T", of("a"))), assert(x, of("T", of("b"))), assert(x, of("T[a]")), assert(field(x, "f"), of("f")),
		lit(of("x")), lit(of("T")), lit(of("T", of("a"))), lit(of("T"), x), lit(of("T"), x, x), lit(of("T"), lit(of("T"))), lit(of("T"), lit(of("T"), x)), lit(of("T"), lit(of("T")), x), lit(of("T"), x, lit(of("T"))),
		call("f", nil, x), call("g", nil, x), call("f", nil, x, x), call("f", list("a"), x), call("f", list("b"), x), call("f", list("a", "b"), x), call("f", list("b", "a"), x), call("f", []api.Type{of("a", of("b"))}, x), call("f", nil), call("f", nil, call("f", nil, x), x), call("f", nil, call("f", nil, x, x)),
		sample(), full(),
	}
	for _, change := range changes() {
		e := full()
		change(&e)
		l = append(l, e)
	}
	return l
}

// changes each change one field of what full returns.
func changes() []func(e *api.Expr) {
	return []func(e *api.Expr){
		func(e *api.Expr) { e.Kind = api.Lit },
		func(e *api.Expr) { e.Name = "N" },
		func(e *api.Expr) { e.Type.Name = "t" },
		func(e *api.Expr) { e.Type.Args[1].Name = "b" },
		func(e *api.Expr) { e.Type.Args = e.Type.Args[:1] },
		func(e *api.Expr) { e.Targs[0].Args[0].Name = "d" },
		func(e *api.Expr) { e.Targs[1].Name = "e" },
		func(e *api.Expr) { e.Targs = e.Targs[:1] },
		func(e *api.Expr) { slices.Reverse(e.Targs) },
		func(e *api.Expr) { e.Kids = e.Kids[:1] },
		func(e *api.Expr) { slices.Reverse(e.Kids) },
		func(e *api.Expr) { e.Kids[1].Kind = api.Field },
		func(e *api.Expr) { e.Kids[1].Name = "Y" },
		func(e *api.Expr) { e.Kids[0].Kind = api.Assert },
		func(e *api.Expr) { e.Kids[0].Name = "K" },
		func(e *api.Expr) { e.Kids[0].Type.Args[0].Name = "l" },
		func(e *api.Expr) { e.Kids[0].Targs[0].Name = "m" },
		func(e *api.Expr) { e.Kids[0].Kids[0].Name = "X" },
		func(e *api.Expr) { e.Kids[0].Kids = nil },
	}
}

// P5.1

func TestSame(t *testing.T) {
	for i, a := range samples() {
		for k, b := range samples() {
			if got := Same(a, b); got != (i == k) {
				t.Errorf("Same(%s, %s) = %t", shown(a), shown(b), got)
			}
		}
	}
}

func TestSameWhateverTheOffsetsAndEmptyLists(t *testing.T) {
	for i, a := range samples() {
		for k, b := range samples() {
			if got := Same(numbered(a, -3), rebuilt(numbered(b, math.MaxInt-99), 2)); got != (i == k) {
				t.Errorf("Same(%s, %s) = %t with other offsets", shown(a), shown(b), got)
			}
		}
	}
	a := api.Expr{Kind: api.Var, Name: "x", Type: api.Type{Args: []api.Type{}}, Targs: []api.Type{}, Kids: []api.Expr{}}
	if !Same(a, variable("x")) || !Same(variable("x"), a) {
		t.Error("nil and empty lists are not the same")
	}
}

// wantRight lists what a right expression of a kind has: whether it has a Name
// and a Type, how many Targs at most, and how many Kids at least and at most.
func wantRight(kind int) (named, typed bool, targsMost, fewest, kidsMost int) {
	switch kind {
	case api.Var:
		return true, false, 0, 0, 0
	case api.Call:
		return true, false, math.MaxInt, 1, math.MaxInt
	case api.Lit:
		return false, true, 0, 0, math.MaxInt
	case api.Field:
		return true, false, 0, 1, 1
	case api.Assert:
		return false, true, 0, 1, 1
	}
	return false, false, 0, 1, 0 // no number of Kids
}

// rightTypes tells which types of this file are right.
func rightTypes(l []api.Type) bool {
	right := true
	walkTypes(l, func(t *api.Type) {
		right = right && slices.Contains([]string{"x", "T", "a_1"}, t.Name)
	})
	return right
}

func TestRightOfEveryForm(t *testing.T) {
	kids := []api.Expr{variable("x"), lit(of("T")), field(variable("y"), "f")}
	count := 0
	for kind := -1; kind <= 7; kind++ {
		named, typed, targsMost, fewest, kidsMost := wantRight(kind)
		for _, name := range []string{"x", "a_1", "", "type", "main", "$0", "_", "1", "x ", "é", "T[a]"} {
			for _, ty := range []api.Type{{}, {Args: []api.Type{}, At: 7}, of("T"), of("T", of("x"), of("a_1")), of("T", of("")), of("", of("T")), of("type"), of("T", of("T", of("$0")))} {
				for _, targs := range [][]api.Type{nil, {}, {of("T")}, {of("T", of("x")), of("x")}, {of("T"), of("")}, {of("func"), of("T")}, {of("T", of("x", of("_")))}} {
					for n := range len(kids) + 1 {
						want := (name == "x" || name == "a_1") == named && (named || name == "")
						if typed {
							want = want && rightTypes([]api.Type{ty})
						} else {
							want = want && ty.Name == "" && len(ty.Args) == 0
						}
						want = want && len(targs) <= targsMost && rightTypes(targs) && fewest <= n && n <= kidsMost
						e := api.Expr{Kind: kind, Name: name, Type: ty, Targs: targs, Kids: kids[:n], At: count}
						if Right(e) != want {
							t.Fatalf("Right(%s) = %t", shown(e), !want)
						}
						count++
					}
				}
			}
		}
	}
}

func TestRightWithKidsThatAreNot(t *testing.T) {
	x := variable("x")
	around := []func(kid api.Expr) api.Expr{
		func(kid api.Expr) api.Expr { return call("m", nil, kid) },
		func(kid api.Expr) api.Expr { return call("m", list("a"), x, kid) },
		func(kid api.Expr) api.Expr { return call("m", nil, x, kid, x) },
		func(kid api.Expr) api.Expr { return lit(of("T"), kid) },
		func(kid api.Expr) api.Expr { return lit(of("T"), x, x, kid) },
		func(kid api.Expr) api.Expr { return field(kid, "f") },
		func(kid api.Expr) api.Expr { return assert(kid, of("T")) },
	}
	wrong := []api.Expr{
		{}, {Kind: 6, Name: "x"}, variable(""), variable("return"), {Kind: api.Var, Name: "x", Kids: []api.Expr{x}}, {Kind: api.Var, Name: "x", Type: of("T")}, {Kind: api.Var, Name: "x", Targs: list("T")},
		field(x, ""), field(x, "struct"), {Kind: api.Field, Name: "f"}, {Kind: api.Field, Name: "f", Kids: []api.Expr{x, x}}, assert(x, of("")), {Kind: api.Assert, Type: of("T")},
		lit(of("")), lit(of("T", of("$1"))), {Kind: api.Lit, Type: of("T"), Name: "x"}, call("m", nil), call("", nil, x), call("m", list("a", "a b"), x),
	}
	for i, put := range around {
		if !Right(put(x)) || !Right(put(put(lit(of("T"))))) {
			t.Error(i, "is not right")
		}
		for _, e := range wrong {
			if Right(e) || Right(put(e)) {
				t.Errorf("%d: with %s it is right", i, shown(e))
			}
			for k, other := range around {
				if Right(other(put(e))) {
					t.Errorf("%d in %d: with %s it is right", i, k, shown(e))
				}
			}
		}
	}
}

func TestRightWhateverTheOffsetsAndEmptyLists(t *testing.T) {
	for _, e := range everyExpr([]string{"a", "B"}, 4) {
		for _, same := range []api.Expr{e, numbered(e, -2), numbered(e, math.MaxInt), rebuilt(e, 1)} {
			if !Right(same) {
				t.Fatalf("Right(%s) = false", shown(same))
			}
		}
	}
}

func TestTextDepthAndValue(t *testing.T) {
	x, T := variable("x"), of("T")
	deep := of("A", of("B"), of("C", of("D", of("E"))), of("F"))
	for _, want := range []struct {
		e     api.Expr
		text  string
		depth int
		value bool
	}{
		{x, "x", 1, false},
		{variable("a_1"), "a_1", 1, false},
		{field(x, "f"), "x.f", 2, false},
		{field(field(x, "f"), "g"), "x.f.g", 3, false},
		{field(lit(T), "f"), "T{}.f", 3, false},
		{assert(x, T), "x.(T)", 2, false},
		{assert(x, deep), "x.(A[B, C[D[E]], F])", 5, false},
		{assert(field(field(x, "f"), "g"), T), "x.f.g.(T)", 4, false},
		{assert(assert(lit(T), of("I")), of("J", of("a"))), "T{}.(I).(J[a])", 4, false},
		{lit(T), "T{}", 2, true},
		{lit(of("T", of("a"), of("b"))), "T[a, b]{}", 3, true},
		{lit(deep), "A[B, C[D[E]], F]{}", 5, true},
		{lit(T, x), "T{x}", 2, false},
		{lit(T, lit(of("A"))), "T{A{}}", 3, true},
		{lit(deep, lit(of("A")), lit(of("B"), lit(of("C")))), "A[B, C[D[E]], F]{A{}, B{C{}}}", 5, true},
		{lit(T, lit(of("A")), lit(of("B"), lit(of("C"), lit(of("D")))), lit(of("E"))), "T{A{}, B{C{D{}}}, E{}}", 5, true},
		{lit(T, lit(of("A")), x), "T{A{}, x}", 3, false},
		{lit(T, x, lit(of("A"))), "T{x, A{}}", 3, false},
		{lit(T, lit(of("A"), lit(of("B")), x)), "T{A{B{}, x}}", 4, false},
		{lit(T, field(lit(of("A")), "f")), "T{A{}.f}", 4, false},
		{lit(T, assert(lit(of("A")), T)), "T{A{}.(T)}", 4, false},
		{lit(T, call("m", nil, lit(of("A")))), "T{A{}.m()}", 4, false},
		{call("m", nil, x), "x.m()", 2, false},
		{call("m", nil, lit(T)), "T{}.m()", 3, false},
		{call("m", list("a"), x), "x.m[a]()", 2, false},
		{call("m", []api.Type{of("a"), deep, of("b")}, x), "x.m[a, A[B, C[D[E]], F], b]()", 5, false},
		{call("m", []api.Type{of("a"), of("b", of("c"))}, x), "x.m[a, b[c]]()", 3, false},
		{call("m", nil, x, x), "x.m(x)", 2, false},
		{call("m", nil, x, variable("y"), variable("z")), "x.m(y, z)", 2, false},
		{call("m", nil, x, x, field(x, "f")), "x.m(x, x.f)", 3, false},
		{call("m", nil, x, field(field(x, "f"), "g"), x), "x.m(x.f.g, x)", 4, false},
		{call("m", nil, call("n", list("a"), x, lit(T)), call("o", nil, variable("y"))), "x.n[a](T{}).m(y.o())", 4, false},
		{call("Map", list("b"), x, variable("f")), "x.Map[b](f)", 2, false},
		{sample(), "x.f.(I[a]).m[a, T[b]](T{}, y)", 4, false},
	} {
		for _, e := range []api.Expr{want.e, rebuilt(want.e, 3), numbered(want.e, 50)} {
			if text, depth, value := Text(e), Depth(e), Value(e); text != want.text || depth != want.depth || value != want.value || !Right(e) {
				t.Errorf("%s: Text %s, Depth %d, Value %t, Right %t", want.text, text, depth, value, Right(e))
			}
		}
	}
}

// wantText puts a text together by the words of the chapter.
func wantText(e api.Expr) string {
	var kids, targs []string
	for _, kid := range e.Kids {
		kids = append(kids, wantText(kid))
	}
	for _, t := range e.Targs {
		targs = append(targs, types.Text(t))
	}
	switch e.Kind {
	case api.Call:
		s := kids[0] + "." + e.Name
		if len(targs) > 0 {
			s += "[" + strings.Join(targs, ", ") + "]"
		}
		return s + "(" + strings.Join(kids[1:], ", ") + ")"
	case api.Lit:
		return types.Text(e.Type) + "{" + strings.Join(kids, ", ") + "}"
	case api.Field:
		return kids[0] + "." + e.Name
	case api.Assert:
		return kids[0] + ".(" + types.Text(e.Type) + ")"
	}
	return e.Name
}

// wantDepth finds the depth, and wantBareDepth that without types.
func wantDepth(e api.Expr) int {
	l := []int{0}
	for _, kid := range e.Kids {
		l = append(l, wantDepth(kid))
	}
	for _, t := range e.Targs {
		l = append(l, types.Depth(t))
	}
	if e.Type.Name != "" {
		l = append(l, types.Depth(e.Type))
	}
	return slices.Max(l) + 1
}

func wantBareDepth(e api.Expr) int {
	l := []int{0}
	for _, kid := range e.Kids {
		l = append(l, wantBareDepth(kid))
	}
	return slices.Max(l) + 1
}

func TestTextDepthAndValueOfEverySmallExpression(t *testing.T) {
	for _, e := range everyExpr([]string{"a", "B"}, 5) {
		others := 0
		walk(&e, func(e *api.Expr) {
			if e.Kind != api.Lit {
				others++
			}
		})
		if text, depth, value := Text(e), Depth(e), Value(e); text != wantText(e) || depth != wantDepth(e) || value != (others == 0) {
			t.Fatalf("%s: Text %s, Depth %d, Value %t", wantText(e), text, depth, value)
		}
	}
}

// Text, Depth and Value are not specified for these, but return.
func TestNothingPanicsForExpressionsThatAreNotRight(t *testing.T) {
	for _, e := range samples() {
		for _, in := range []api.Expr{e, lit(of("T"), e), field(e, "f"), call("m", nil, e, e)} {
			Text(in)
			Depth(in)
			Value(in)
		}
	}
	for kind := -1; kind <= 7; kind++ {
		e := api.Expr{Kind: kind, Name: "x", Kids: []api.Expr{}}
		Text(e)
		Depth(e)
		Value(e)
		Text(lit(of("T"), e))
	}
}

func TestTheGreatestExpressions(t *testing.T) {
	wide := lit(of("T"), slices.Repeat([]api.Expr{variable("x")}, most-2)...)
	deep := chain(most, variable("x"))
	nested := lit(of("T"))
	for range most/2 - 1 {
		nested = lit(of("T"), nested)
	}
	calls := variable("x")
	for range most/2 - 1 {
		calls = call("m", nil, calls, variable("y"))
	}
	for _, want := range []struct {
		e     api.Expr
		text  string
		depth int
		value bool
	}{
		{wide, "T{x" + strings.Repeat(", x", most-3) + "}", 2, false},
		{deep, "x" + strings.Repeat(".f", most-1), most, false},
		{nested, strings.Repeat("T{", most/2) + strings.Repeat("}", most/2), most/2 + 1, true},
		{calls, "x" + strings.Repeat(".m(y)", most/2-1), most / 2, false},
		{call("m", slices.Repeat(list("a"), most-2), variable("x")), "x.m[a" + strings.Repeat(", a", most-3) + "]()", 2, false},
	} {
		if !Right(want.e) || Depth(want.e) != want.depth || Value(want.e) != want.value || Text(want.e) != want.text {
			t.Errorf("%.20s: Right %t, Depth %d, Value %t", want.text, Right(want.e), Depth(want.e), Value(want.e))
		}
		if e := Clone(want.e); !Same(e, want.e) || Same(e, field(want.e, "f")) {
			t.Errorf("%.20s is compared wrong", want.text)
		}
	}
	if Right(chain(most, variable("$0"))) || Value(lit(of("T"), append(slices.Repeat([]api.Expr{lit(of("T"))}, most/2), variable("x"))...)) {
		t.Error("the last part is not seen")
	}
	if Same(deep, chain(most, variable("y"))) || Same(deep, chain(most-1, variable("x"))) {
		t.Error("the last difference is not seen")
	}
}

// P5.2

func TestSubst(t *testing.T) {
	x := variable("x")
	for _, want := range []struct {
		e     api.Expr
		names []string
		args  []api.Type
		text  string
	}{
		{sample(), []string{"a"}, list("Int"), "x.f.(I[Int]).m[Int, T[b]](T{}, y)"},
		{sample(), []string{"b", "a"}, []api.Type{of("P", of("a")), of("b")}, "x.f.(I[b]).m[b, T[P[a]]](T{}, y)"},
		// only types without Args, but in all types
		{sample(), []string{"T", "I"}, list("A", "B"), "x.f.(I[a]).m[a, T[b]](A{}, y)"},
		{lit(of("a"), lit(of("a", of("a"))), assert(lit(of("b")), of("a"))), []string{"a"}, list("A"), "A{a[A]{}, b{}.(A)}"},
		{call("m", list("a"), call("m", list("a", "b"), lit(of("a"))), call("m", list("b"), x)), []string{"a", "b"}, list("b", "a"), "b{}.m[b, a]().m[b](x.m[a]())"},
		// other names stay
		{call("a", list("a"), field(variable("a"), "a"), variable("a")), []string{"a"}, list("A"), "a.a.a[A](a)"},
		// the first such name counts; names without a type, types without a name
		{lit(of("F", of("a"), of("b"))), []string{"a", "a", "b", "a", "b"}, list("A", "B", "C", "D", "E"), "F[A, C]{}"},
		{lit(of("F", of("a"), of("b"))), []string{"a", "b"}, list("A"), "F[A, b]{}"},
		{lit(of("F", of("a"), of("b"))), []string{"c", "b", "b"}, list("A"), "F[a, b]{}"},
		{lit(of("F", of("a"), of("b"))), nil, list("A", "B"), "F[a, b]{}"},
		{lit(of("F", of("a"), of("b"))), []string{"a"}, nil, "F[a, b]{}"},
		{lit(of("F", of("a"), of("b"))), []string{"b"}, list("A", "B", "C"), "F[a, A]{}"},
		// all at once: what comes in is not substituted again
		{assert(lit(of("a")), of("b")), []string{"a", "b"}, []api.Type{of("G", of("b")), of("H", of("a"))}, "G[b]{}.(H[a])"},
		{lit(of("a")), []string{"a"}, []api.Type{of("L", of("a"))}, "L[a]{}"},
		{x, []string{"x", "a"}, list("A", "B"), "x"},
	} {
		got := Subst(want.e, want.names, want.args)
		if Text(got) != want.text || !Right(got) {
			t.Errorf("Subst(%s, %q, %s) = %s, want %s", Text(want.e), want.names, types.Text(of("", want.args...)), Text(got), want.text)
		}
	}
}

// wantSubst substitutes by the words of the chapter.
func wantSubst(e api.Expr, names []string, args []api.Type) api.Expr {
	e = rebuilt(e, 0)
	walk(&e, func(e *api.Expr) {
		e.Type = types.Subst(e.Type, names, args)
		for i := range e.Targs {
			e.Targs[i] = types.Subst(e.Targs[i], names, args)
		}
	})
	return e
}

func TestSubstOfAnyExpression(t *testing.T) {
	l := append(everyExpr([]string{"a", "b"}, 4), samples()...)
	args := [][]api.Type{nil, {of("A", of("b"))}, {of("b"), of("a")}, {of("a", of("b")), of("B"), of("C")}}
	for k := range args {
		for i := range args[k] {
			args[k][i].At = 1000 + i
		}
	}
	for i, e := range l {
		e = numbered(e, 5*i)
		for _, names := range [][]string{nil, {"a"}, {"b", "a"}, {"a", "a", "b"}, {"T", "A", "B", "C", "D", "E", "K", "L", "M"}} {
			for _, given := range args {
				if got, want := shown(Subst(e, names, given)), shown(wantSubst(e, names, given)); got != want {
					t.Fatalf("Subst(%s, %q, %s) = %s, want %s", shown(e), names, shownTypes(given), got, want)
				}
			}
		}
	}
}

func TestReplace(t *testing.T) {
	x, y, T := variable("x"), variable("y"), of("T")
	A, B := lit(of("A")), lit(of("B"))
	for _, want := range []struct {
		e      api.Expr
		vars   []string
		values []api.Expr
		text   string
	}{
		{x, []string{"x"}, []api.Expr{A}, "A{}"},
		{x, []string{"y"}, []api.Expr{A}, "x"},
		{x, []string{"y", "x"}, []api.Expr{A, B}, "B{}"},
		{sample(), []string{"x"}, []api.Expr{A}, "A{}.f.(I[a]).m[a, T[b]](T{}, y)"},
		{sample(), []string{"y", "x"}, []api.Expr{sample(), y}, "y.f.(I[a]).m[a, T[b]](T{}, x.f.(I[a]).m[a, T[b]](T{}, y))"},
		{lit(T, x, y, lit(T, x), assert(x, T)), []string{"x"}, []api.Expr{B}, "T{B{}, y, T{B{}}, B{}.(T)}"},
		{call("m", nil, x, x, field(x, "x")), []string{"x"}, []api.Expr{A}, "A{}.m(A{}, A{}.x)"},
		// only variables have such names
		{call("x", list("x"), field(lit(of("x")), "x"), assert(y, of("x"))), []string{"x", "T"}, []api.Expr{A, B}, "x{}.x.x[x](y.(x))"},
		{lit(T, variable("T")), []string{"T", "x"}, []api.Expr{A, B}, "T{A{}}"},
		// the first such name counts; names without a value, values without a name
		{lit(T, x, y), []string{"x", "x", "y", "x", "y"}, []api.Expr{A, B, x, y, y}, "T{A{}, x}"},
		{lit(T, x, y), []string{"x", "y"}, []api.Expr{A}, "T{A{}, y}"},
		{lit(T, x, y), []string{"z", "x", "y"}, []api.Expr{A}, "T{x, y}"},
		{lit(T, x, y), []string{"x", "y", "x", "y"}, []api.Expr{A}, "T{A{}, y}"},
		{lit(T, x, y), []string{"x", "y"}, nil, "T{x, y}"},
		{lit(T, x, y), nil, []api.Expr{A, B}, "T{x, y}"},
		{lit(T, x, y), []string{"y"}, []api.Expr{A, B, x}, "T{x, A{}}"},
		// all at once: what comes in is not replaced again
		{lit(T, x, y), []string{"x", "y"}, []api.Expr{y, x}, "T{y, x}"},
		{lit(T, x, y), []string{"x", "y"}, []api.Expr{field(y, "f"), lit(T, x, y)}, "T{y.f, T{x, y}}"},
		{x, []string{"x"}, []api.Expr{lit(T, x)}, "T{x}"},
		{lit(T), []string{"x"}, []api.Expr{A}, "T{}"},
	} {
		if got := Replace(want.e, want.vars, want.values); Text(got) != want.text || !Right(got) {
			t.Errorf("Replace(%s, %q, %s) = %s, want %s", Text(want.e), want.vars, shown(group(want.values...)), Text(got), want.text)
		}
	}
}

// wantReplace replaces by the words of the chapter.
func wantReplace(e api.Expr, vars []string, values []api.Expr) api.Expr {
	if i := slices.Index(vars, e.Name); i >= 0 && i < len(values) && e.Kind == api.Var {
		return rebuilt(values[i], 0)
	}
	e = rebuilt(e, 0)
	for i := range e.Kids {
		e.Kids[i] = wantReplace(e.Kids[i], vars, values)
	}
	return e
}

func TestReplaceInAnyExpression(t *testing.T) {
	l := append(everyExpr([]string{"a", "x"}, 4), samples()...)
	values := [][]api.Expr{nil, {{}}, {numbered(sample(), 700)}, {variable("x"), variable("a"), numbered(lit(of("T"), variable("y")), -70)}, {full(), lit(of("x")), group()}}
	for i, e := range l {
		e = numbered(e, 5*i)
		for _, vars := range [][]string{nil, {"x"}, {"a", "x"}, {"x", "x", "a"}, {"", "y", "x"}, {"f", "m", "n", "k", "T"}} {
			for _, given := range values {
				if got, want := shown(Replace(e, vars, given)), shown(wantReplace(e, vars, given)); got != want {
					t.Fatalf("Replace(%s, %q, %s) = %s, want %s", shown(e), vars, shown(group(given...)), got, want)
				}
			}
		}
	}
}

func TestSubstitutingAndReplacingSharesNoMemory(t *testing.T) {
	for _, e := range append(samples(), lit(of("P", of("a")), sample(), sample(), variable("x"), variable("x"), lit(of("a")), lit(of("a")))) {
		e = rebuilt(e, 2)
		args := rebuiltTypes([]api.Type{of("A", of("B"), of("C", of("a"))), of("b")}, 2)
		values := rebuilt(group(sample(), full()), 2).Kids
		names, vars := []string{"a", "b", "A"}, []string{"x", "y", "z"}
		before := shown(group(e, group(values...), api.Expr{Targs: args}))
		do := []func() api.Expr{
			func() api.Expr { return Subst(e, names[:2], args) },
			func() api.Expr { return Replace(e, vars[:2], values) },
			func() api.Expr { return Clone(e) },
		}
		want := []string{shown(wantSubst(e, names[:2], args)), shown(wantReplace(e, vars[:2], values)), shown(rebuilt(e, 0))}
		var kept []api.Expr
		for i := range do {
			got := do[i]()
			if shown(got) != want[i] {
				t.Fatalf("%d: %s, want %s", i, shown(got), want[i])
			}
			checkFresh(t, got)
			spoil([]api.Expr{got})
			kept = append(kept, do[i]())
		}
		if after := shown(group(e, group(values...), api.Expr{Targs: args})); after != before || strings.Join(names, "")+strings.Join(vars, "") != "abAxyz" {
			t.Fatalf("what is given was %s and is %s", before, after)
		}
		spoil([]api.Expr{e})
		spoil(values)
		spoilTypes(args)
		for i := range kept {
			if shown(kept[i]) != want[i] {
				t.Fatalf("%d: a change of what is given changes what was returned to %s", i, shown(kept[i]))
			}
		}
	}
}

func TestNoMemoryIsSharedWhereWhatIsGivenShares(t *testing.T) {
	one := sample() // stands in many places, with its memory
	ty := of("T", of("a"))
	e := lit(ty, one, one, lit(ty), assert(one, ty), call("m", []api.Type{ty, ty}, one, one))
	checkFresh(t, Clone(e))
	checkFresh(t, Subst(e, []string{"a"}, []api.Type{ty}))
	checkFresh(t, Replace(e, []string{"x", "y"}, []api.Expr{one, one}))
	checkFresh(t, Replace(e, nil, nil))
}

func TestManyNamesInTheGreatestExpressions(t *testing.T) {
	var names []string
	var args []api.Type
	var lits, vars, values []api.Expr
	for i := range most / 2 {
		s := strconv.Itoa(i)
		names = append(names, "n"+s)
		args = append(args, of("t"+s))
		lits, vars, values = append(lits, lit(of("n"+s))), append(vars, variable("n"+s)), append(values, lit(of("t"+s)))
	}
	if got := Subst(lit(of("T"), lits...), names, args); !Same(got, lit(of("T"), values...)) {
		t.Error("many names are substituted wrong")
	}
	if got := Replace(lit(of("T"), vars...), names, values); !Same(got, lit(of("T"), values...)) {
		t.Error("many variables are replaced wrong")
	}
	deep := chain(most/2, lit(of("n7")))
	if got := Subst(deep, names, args); !Same(got, chain(most/2, values[7])) {
		t.Error("a deep type is substituted wrong")
	}
	if got := Replace(chain(most/2, vars[9]), names, values); !Same(got, chain(most/2, values[9])) {
		t.Error("a deep variable is replaced wrong")
	}
	if got := Replace(chain(most/2, vars[0]), names, []api.Expr{chain(most/2, vars[0])}); !Same(got, chain(most-1, vars[0])) {
		t.Error("a deep value is put in wrong")
	}
}

// P5.3

func TestClone(t *testing.T) {
	for _, e := range append(everyExpr([]string{"a", "B"}, 4), samples()...) {
		for _, first := range []int{0, 3, -2, math.MaxInt - 99, math.MinInt} {
			e := numbered(e, first)
			if got := Clone(rebuilt(e, 1)); shown(got) != shown(e) || !Same(got, e) {
				t.Fatalf("Clone(%s) = %s", shown(e), shown(got))
			}
		}
	}
}

// yielded returns what an iterator yields, until it has yielded n expressions.
func yielded(all iter.Seq[api.Expr], n int) []api.Expr {
	var l []api.Expr
	all(func(e api.Expr) bool {
		l = append(l, e)
		return len(l) < n
	})
	return l
}

func TestAll(t *testing.T) {
	x, T := variable("x"), of("T")
	for _, want := range []struct {
		e     api.Expr
		texts string
	}{
		{x, "x"},
		{lit(T), "T{}"},
		{field(field(x, "f"), "g"), "x.f.g; x.f; x"},
		{assert(lit(T), of("I")), "T{}.(I); T{}"},
		{lit(T, x, x), "T{x, x}; x; x"},
		{lit(T, lit(of("A"), x), lit(of("B"), lit(of("C")), x), x), "T{A{x}, B{C{}, x}, x}; A{x}; x; B{C{}, x}; C{}; x; x"},
		{call("m", list("a", "b"), field(x, "f"), call("n", nil, variable("y"), variable("z"))), "x.f.m[a, b](y.n(z)); x.f; x; y.n(z); y; z"},
		{sample(), "x.f.(I[a]).m[a, T[b]](T{}, y); x.f.(I[a]); x.f; x; T{}; y"},
	} {
		var texts []string
		for e := range All(want.e) {
			texts = append(texts, Text(e))
		}
		if got := strings.Join(texts, "; "); got != want.texts {
			t.Errorf("All(%s) yields %s", Text(want.e), got)
		}
	}
}

func TestAllOfAnyExpression(t *testing.T) {
	for _, e := range append(everyExpr([]string{"a", "B"}, 4), samples()...) {
		e = numbered(e, 9)
		var want []api.Expr
		walk(&e, func(e *api.Expr) { want = append(want, *e) })
		for n := 1; n <= len(want)+1; n++ {
			if got := yielded(All(e), n); shown(group(slices.Clip(got)...)) != shown(group(slices.Clip(want[:min(n, len(want))])...)) {
				t.Fatalf("All(%s), stopped at %d, yields %s", shown(e), n, shown(group(got...)))
			}
		}
	}
}

func TestAllMayBeStoppedAndBeginsAnew(t *testing.T) {
	all := All(sample())
	for e := range all {
		if e.Kind == api.Lit {
			break
		}
	}
	count := 0
	for range all {
		count++
		for range all {
			count++
		}
	}
	next, stop := iter.Pull(all)
	defer stop()
	for want := range all {
		if got, more := next(); !more || !Same(got, want) {
			t.Error(Text(got), Text(want))
		}
	}
	if _, more := next(); more || count != 6+6*6 {
		t.Error(count)
	}
}

func TestAllOfAnExpressionThatIsChanged(t *testing.T) {
	for _, e := range samples() {
		e = rebuilt(e, 2)
		want, before := shown(group(yielded(All(rebuilt(e, 0)), most)...)), shown(e)
		all := All(e)
		spoil(yielded(all, most)) // what one loop yields is not seen in the next one
		if shown(e) != before {
			t.Fatalf("the expression was %s and is %s", before, shown(e))
		}
		spoil([]api.Expr{e})
		if got := shown(group(yielded(all, most)...)); got != want {
			t.Fatalf("the iterator keeps the expression: %s, not %s", got, want)
		}
	}
}

func TestAllOfTheGreatestExpressions(t *testing.T) {
	count := 0
	for e := range All(chain(most, variable("x"))) {
		count++
		if (e.Kind == api.Var) != (count == most) {
			t.Fatal(count)
		}
	}
	wide := yielded(All(lit(of("T"), slices.Repeat([]api.Expr{variable("x")}, most-2)...)), most)
	if count != most || len(wide) != most-1 || wide[0].Kind != api.Lit || wide[most-2].Kind != api.Var {
		t.Error(count, len(wide))
	}
}

// P5.4

func TestRightExpressionsAreTheSameIfTheirTextsAre(t *testing.T) {
	byText := map[string]api.Expr{}
	l := append(everyExpr([]string{"a", "aa"}, 5), everyExpr([]string{"a"}, 7)...)
	for i, e := range l {
		other, found := byText[Text(e)]
		if !Right(e) || found && !Same(e, numbered(other, i)) {
			t.Fatalf("%s and %s have one text", shown(e), shown(other))
		}
		byText[Text(e)] = e
	}
	few := everyExpr([]string{"a"}, 5)
	for i, a := range few {
		for k, b := range few {
			if Same(numbered(a, k), numbered(b, i)) != (Text(a) == Text(b)) {
				t.Fatalf("%s and %s", Text(a), Text(b))
			}
		}
	}
	if a, b := variable("x.f"), field(variable("x"), "f"); Same(a, b) || Text(a) != Text(b) {
		t.Error("expressions that are not right may have one text")
	}
}

func TestTheSizeIsAtLeastTheDepthWithoutTypes(t *testing.T) {
	for _, e := range everyExpr([]string{"a", "B"}, 5) {
		count := 0
		for range All(e) {
			count++
		}
		bare := true
		walk(&e, func(e *api.Expr) { bare = bare && e.Type.Name == "" && len(e.Targs) == 0 })
		if count != size(e) || count < wantBareDepth(e) || Depth(e) < wantBareDepth(e) || bare && Depth(e) != wantBareDepth(e) {
			t.Fatalf("%s: size %d, depth %d, without types %d", Text(e), count, Depth(e), wantBareDepth(e))
		}
	}
}

func TestTheOthersLeaveAnExpressionAsItIs(t *testing.T) {
	for _, e := range append(samples(), everyExpr([]string{"a", "B"}, 3)...) {
		e = rebuilt(numbered(e, 1), 2)
		before := shown(e)
		Same(e, e)
		Right(e)
		Text(e)
		Depth(e)
		Value(e)
		if shown(e) != before {
			t.Fatalf("%s is now %s", before, shown(e))
		}
	}
}

func TestConcurrentCalls(t *testing.T) {
	e := sample()
	names, args, values := []string{"a", "x"}, []api.Type{of("A"), of("B")}, []api.Expr{e, e}
	all := All(e)
	var done sync.WaitGroup
	for range 8 {
		done.Go(func() {
			for range 500 {
				got := Replace(Subst(e, names, args), names, values)
				count := 0
				for part := range all {
					spoilTypes(part.Targs)
					count++
				}
				if Text(got) != "x.f.(I[a]).m[a, T[b]](T{}, y).f.(I[A]).m[A, T[b]](T{}, y)" || count != 6 || !Same(Clone(e), e) || !Right(got) || Depth(got) != 7 || Value(got) {
					t.Error("a concurrent call went wrong")
					return
				}
			}
		})
	}
	done.Wait()
}

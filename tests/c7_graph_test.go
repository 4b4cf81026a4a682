package tests

import (
	"math/rand"
	"slices"
	"strconv"
	"strings"
	"testing"

	"loop.example/importhouse/impl"
)

// upTo returns a name and all names above it, the shortest first, done with the text.
func upTo(s string) []string {
	var names []string
	for i, letter := range s + "." {
		if letter == '.' {
			names = append(names, s[:i])
		}
	}
	return names
}

// neededIn is NeedsOf of valid arguments.
func neededIn(u impl.Tree, path []int, s string) []string {
	spec := looked(u, path, s)
	if spec.File < 0 {
		return nil
	}
	p := s
	if spec.Kind == impl.SpModule {
		p, _, _ = cutLast(s)
	}
	var names []string
	for _, stmt := range u.Files[spec.File].Body {
		name := ""
		switch stmt.Kind {
		case impl.SmImport, impl.SmStar:
			name = stmt.Module
		case impl.SmFrom:
			name = resolved(p, stmt.Level, stmt.Module)
		}
		if name != "" && !slices.Contains(names, name) {
			names = append(names, name)
		}
	}
	return names
}

// web is a model of the ways of a tree by a path: all names that it tells, where each of them leads, and between which two
// of them there is a way of one step or more.
type web struct {
	tree  impl.Tree
	path  []int
	names []string
	needs map[string][]string
	edges map[string][]string
	leads map[[2]string]bool
}

// webOf returns the model of a tree by a path, with some names more.
func webOf(u impl.Tree, path []int, more ...string) web {
	w := web{tree: u, path: path, needs: map[string][]string{}, edges: map[string][]string{}, leads: map[[2]string]bool{}}
	set := map[string]bool{}
	for _, f := range u.Files {
		more = append(more, nameAt(f))
	}
	for _, s := range more {
		for _, name := range upTo(s) {
			set[name] = true
			w.needs[name] = neededIn(u, path, name)
		}
	}
	for s, needs := range w.needs {
		for _, need := range needs {
			for _, name := range upTo(need) {
				set[name] = true
				if !w.leads[[2]string{s, name}] {
					w.leads[[2]string{s, name}] = true
					w.edges[s] = append(w.edges[s], name)
				}
			}
		}
	}
	w.names = sortedOnce(set)
	for _, by := range w.names {
		for _, from := range w.names {
			for _, to := range w.names {
				if w.leads[[2]string{from, by}] && w.leads[[2]string{by, to}] {
					w.leads[[2]string{from, to}] = true
				}
			}
		}
	}
	return w
}

// only returns those names of a model for which something is so, ascending.
func (w web) only(is func(s string) bool) []string {
	var names []string
	for _, s := range w.names {
		if is(s) {
			names = append(names, s)
		}
	}
	return names
}

// finds reports whether a name is found.
func (w web) finds(s string) bool {
	return looked(w.tree, w.path, s).Kind != impl.SpNone
}

// reach is ReachOf.
func (w web) reach(s string) []string {
	return w.only(func(to string) bool {
		return slices.ContainsFunc(upTo(s), func(from string) bool { return from == to || w.leads[[2]string{from, to}] })
	})
}

// missing is MissingOf.
func (w web) missing(s string) []string {
	return slices.DeleteFunc(w.reach(s), w.finds)
}

// rings is RingsOf.
func (w web) rings(s string) []string {
	return slices.DeleteFunc(w.reach(s), func(to string) bool { return !w.leads[[2]string{to, to}] })
}

// simple is IsSimple.
func (w web) simple(s string) bool {
	return !slices.ContainsFunc(w.reach(s), func(name string) bool {
		i := looked(w.tree, w.path, name).File
		return i >= 0 && slices.ContainsFunc(w.tree.Files[i].Body, func(stmt impl.Stmt) bool {
			return stmt.Kind != 0 && stmt.Kind != 2 && stmt.Kind != 3
		})
	})
}

// users is UsersOf.
func (w web) users(s string) []string {
	return w.only(func(user string) bool { return w.finds(user) && slices.Contains(w.edges[user], s) })
}

// bare returns the tree in which each file that is found has a body that just imports what it needs. Runs of it tell in which
// order bodies end.
func (w web) bare() impl.Tree {
	u := copyOfTree(w.tree)
	for i, f := range u.Files {
		var body []impl.Stmt
		for _, need := range w.needs[nameAt(f)] {
			body = append(body, impl.Stmt{Kind: impl.SmImport, Module: need})
		}
		u.Files[i].Body = body
	}
	return u
}

// plain is PlainOrder.
func (w web) plain(s string) ([]string, bool) {
	if len(w.rings(s)) > 0 || len(w.missing(s)) > 0 {
		return nil, false
	}
	return eventsOf(ran(w.bare(), w.path, importing(s), 120).Log, impl.EvDone), true
}

// height is the number of the layer of a name that is below itself in no way.
func (w web) height(s string) int {
	height := 0
	below := slices.Clone(w.edges[s])
	if above, _, deep := cutLast(s); deep {
		below = append(below, above)
	}
	for _, name := range below {
		height = max(height, w.height(name)+1)
	}
	return height
}

// layers is LayersOf.
func (w web) layers(s string) [][]string {
	if len(w.rings(s)) > 0 {
		return nil
	}
	var layers [][]string
	for _, name := range w.reach(s) {
		for height := w.height(name); len(layers) <= height; {
			layers = append(layers, nil)
		}
		layers[w.height(name)] = append(layers[w.height(name)], name)
	}
	return layers
}

// withoutRings returns a tree in which the bodies name only what is found by the path 0 and 1, and is ahead of their files, with
// all above it.
func withoutRings(u impl.Tree) impl.Tree {
	first := map[string]int{}
	for i, f := range slices.Backward(u.Files) {
		first[nameAt(f)] = i
	}
	for i := range u.Files {
		f := &u.Files[i]
		f.Body = slices.DeleteFunc(f.Body, func(s impl.Stmt) bool {
			name := s.Module
			if s.Level > 0 {
				name = resolved(f.Package, s.Level, s.Module)
			}
			ahead := func(above string) bool {
				return first[above] < first[nameAt(*f)] && looked(u, []int{0, 1}, above).Kind != impl.SpNone
			}
			return name != "" && slices.ContainsFunc(upTo(name), func(above string) bool { return !ahead(above) })
		})
	}
	return u
}

// graphTree returns a tree with many modules that name each other, often without rings, or with bodies that only import and set.
func graphTree(r *rand.Rand) impl.Tree {
	var u impl.Tree
	var names []string
	for len(u.Files) < 12 && r.Intn(20) > 0 {
		f := impl.File{Root: r.Intn(2), Package: pick(r, "", "", "", "", "a", "a", "c", "a.b", "c.a"), Name: pick(r, "a", "b", "b", "c", "d", "e", "f")}
		if f.Package != "" && r.Intn(3) == 0 {
			f.Init, f.Name = true, ""
		}
		if !slices.ContainsFunc(u.Files, func(g impl.File) bool { return samePlace(f, g) }) {
			u.Files = append(u.Files, f)
			names = append(names, nameAt(f))
		}
	}
	most, ordered := 2+r.Intn(7), r.Intn(2) == 0
	for i := range u.Files {
		pool := names
		if ordered {
			pool = names[:max(1, i)]
		}
		for range r.Intn(most) {
			u.Files[i].Body = append(u.Files[i].Body, randomStmt(r, u.Files[i].Package, pool))
		}
		if r.Intn(12) == 0 {
			u.Files[i].Body = append(u.Files[i].Body, impl.Stmt{Kind: impl.SmImport, Module: pick(r, runNames...)})
		}
	}
	if ordered {
		u = withoutRings(u)
	}
	if r.Intn(2) == 0 {
		for i := range u.Files {
			u.Files[i].Body = slices.DeleteFunc(u.Files[i].Body, func(s impl.Stmt) bool { return s.Kind != 0 && s.Kind != 2 && s.Kind != 3 })
		}
	}
	return u
}

// eachWeb calls a function with the models of many trees, and with each name that they tell: those that are found, and others.
func eachWeb(f func(w web, s string)) {
	r := rand.New(rand.NewSource(700))
	for range 1200 {
		u := graphTree(r)
		w := webOf(u, runPath(r), pick(r, runNames...), "d.e.f")
		for _, s := range w.names {
			f(w, s)
		}
	}
}

// drawn is a graph that is told by hand: what is told of a name in it. The path is 0 and 1, and layers have bars between them.
type drawn struct {
	files   []string
	name    string
	needs   string
	edges   string
	reach   string
	missing string
	rings   string
	plain   string
	simple  bool
	users   string
	layers  string
}

// drawings returns the graphs that are told by hand. The plain order that there is not is "no".
func drawings() []drawn {
	ring := []string{"0 - a: import b", "0 - b: star a", "0 - c: import b; print b", "0 - d: import d", "0 - e: set x 1"}
	inner := []string{"0 a *: import a.b", "0 a b:", "0 c *: from 1 - b", "0 c b: import a", "0 d *: set x 1", "0 d b: import d; from 1 - b", "1 a c: fail"}
	across := []string{"0 a *: import b", "0 a c: set x 1", "0 - b: from 0 a.c x", "0 e f: import e.g", "0 e g: set x 1", "0 - h: import a.c; import e.f"}
	space := []string{"0 a.b c: import d", "1 a e: star a.b", "0 - d:", "1 - f: import a; import a.b.c; import a.e"}
	lost := []string{"0 - a: import b; import c.d", "0 c *: import a.b.c", "0 - f: fail; import g", "0 - h: import f.g", "1 - m: set x 1", "0 m n: import m.k"}
	dots := []string{"0 - a: from 1 - x; from 1 b x; from 0 b x; print x", "0 - b: set x 1", "0 p *: from 2 - x; from 1 q x; set x 1", "0 p q: from 2 - x; from 1 - x",
		"0 p.q *: from 1 r.s x; from 1 r x; from 2 - x; from 3 b x", "0 p.q r: from 2 r x; from 3 - x; from 1 q x; from 2 q.r x"}
	twice := []string{"0 - a: import b.c.d; star b.c.d; from 0 b.c.d x; import b.e; import b", "0 b.c d: set y 3", "1 b e:", "0 b e: import b; star b.c; import b"}
	hidden := []string{"1 - a: import b", "0 - a: import c", "0 - b:", "1 - c: fail; import b", "0 - c: import b", "2 - b: fail"}
	return []drawn{
		{ring, "a", "b", "b", "a b", "", "a b", "no", true, "b", ""},
		{ring, "b", "a", "a", "a b", "", "a b", "no", true, "a c", ""},
		{ring, "c", "b", "b", "a b c", "", "a b", "no", false, "", ""},
		{ring, "d", "d", "d", "d", "", "d", "no", true, "d", ""},
		{ring, "e", "", "", "e", "", "", "e", true, "", "e"},
		{ring, "e.a", "", "", "e e.a", "e.a", "", "no", true, "", "e|e.a"},
		{ring, "d.a", "", "", "d d.a", "d.a", "d", "no", true, "", ""},
		{inner, "a", "a.b", "a a.b", "a a.b", "", "a", "no", true, "a c.b", ""},
		{inner, "a.b", "", "", "a a.b", "", "a", "no", true, "a", ""},
		{inner, "a.c", "", "", "a a.b a.c", "a.c", "a", "no", true, "", ""},
		{inner, "c", "c", "c", "c", "", "c", "no", false, "c", ""},
		{inner, "c.b", "a", "a", "a a.b c c.b", "", "a c", "no", false, "", ""},
		{inner, "d.b", "d", "d", "d d.b", "", "", "d d.b", false, "", "d|d.b"},
		{inner, "d", "", "", "d", "", "", "d", true, "d.b", "d"},
		{across, "a", "b", "b", "a a.c b", "", "a b", "no", false, "b h", ""},
		{across, "a.c", "", "", "a a.c b", "", "a b", "no", false, "b h", ""},
		{across, "e", "", "", "e", "", "", "e", true, "e.f h", "e"},
		{across, "e.f", "e.g", "e e.g", "e e.f e.g", "", "", "e e.g e.f", true, "h", "e|e.g|e.f"},
		{across, "h", "a.c e.f", "a a.c e e.f", "a a.c b e e.f e.g h", "", "a b", "no", false, "", ""},
		{space, "a", "", "", "a", "", "", "a", true, "a.e f", "a"},
		{space, "a.b", "", "", "a a.b", "", "", "a a.b", true, "a.e f", "a|a.b"},
		{space, "a.b.c", "d", "d", "a a.b a.b.c d", "", "", "a a.b d a.b.c", true, "f", "a d|a.b|a.b.c"},
		{space, "a.e", "a.b", "a a.b", "a a.b a.e", "", "", "a a.b a.e", true, "f", "a|a.b|a.e"},
		{space, "f", "a a.b.c a.e", "a a.b a.b.c a.e", "a a.b a.b.c a.e d f", "", "", "a a.b d a.b.c a.e f", true, "", "a d|a.b|a.b.c a.e|f"},
		{space, "d.g", "", "", "d d.g", "d.g", "", "no", true, "", "d|d.g"},
		{lost, "a", "b c.d", "b c c.d", "a a.b a.b.c b c c.d", "a.b a.b.c b c.d", "a c", "no", true, "c", ""},
		{lost, "b", "", "", "b", "b", "", "no", true, "a", "b"},
		{lost, "b.c.d", "", "", "b b.c b.c.d", "b b.c b.c.d", "", "no", true, "", "b|b.c|b.c.d"},
		{lost, "c.d", "", "", "a a.b a.b.c b c c.d", "a.b a.b.c b c.d", "a c", "no", true, "a", ""},
		{lost, "g", "", "", "g", "g", "", "no", true, "f", "g"},
		{lost, "f", "g", "g", "f g", "g", "", "no", false, "h", "g|f"},
		{lost, "h", "f.g", "f f.g", "f f.g g h", "f.g g", "", "no", false, "", "g|f|f.g|h"},
		{lost, "f.g", "", "", "f f.g g", "f.g g", "", "no", false, "h", "g|f|f.g"},
		{lost, "m.n", "", "", "m m.n", "m.n", "", "no", true, "", "m|m.n"},
		{lost, "m", "", "", "m", "", "", "m", true, "", "m"},
		{dots, "a", "b", "b", "a b", "", "", "b a", false, "", "b|a"},
		{dots, "p", "p.q", "p p.q", "p p.q p.q.q p.q.r p.r", "p.q.q p.r", "p p.q p.q.r", "no", false, "p p.q p.q.r", ""},
		{dots, "p.q", "p.q.r p", "p p.q p.q.r", "p p.q p.q.q p.q.r p.r", "p.q.q p.r", "p p.q p.q.r", "no", false, "p p.q p.q.r", ""},
		{dots, "p.q.r", "p.r p.q.q p.q.r", "p p.r p.q p.q.q p.q.r", "p p.q p.q.q p.q.r p.r", "p.q.q p.r", "p p.q p.q.r", "no", false, "p.q p.q.r", ""},
		{dots, "b", "", "", "b", "", "", "b", true, "a", "b"},
		{twice, "a", "b.c.d b.e b", "b b.c b.c.d b.e", "a b b.c b.c.d b.e", "", "", "b b.c b.c.d b.e a", false, "", "b|b.c|b.c.d b.e|a"},
		{twice, "b.e", "b b.c", "b b.c", "b b.c b.e", "", "", "b b.c b.e", true, "a", "b|b.c|b.e"},
		{twice, "b.c.d", "", "", "b b.c b.c.d", "", "", "b b.c b.c.d", true, "a", "b|b.c|b.c.d"},
		{hidden, "a", "c", "c", "a b c", "", "", "b c a", true, "", "b|c|a"},
		{hidden, "b", "", "", "b", "", "", "b", true, "c", "b"},
	}
}

// expectDrawn fails if the names that a function returns are not those of the graphs that are told by hand.
func expectDrawn(t *testing.T, f func(u impl.Tree, path []int, s string) []string, want func(d drawn) string) {
	t.Helper()
	for _, d := range drawings() {
		u := treeOf(d.files...)
		if !impl.ValidTree(u) {
			t.Fatalf("%q is not valid", d.files)
		}
		if got := strings.Join(f(u, []int{0, 1}, d.name), " "); got != want(d) {
			t.Errorf("%q in %q is told %q, and not %q", d.name, d.files, got, want(d))
		}
	}
}

// expectNothing fails if a function returns names for other arguments.
func expectNothing(t *testing.T, f func(u impl.Tree, path []int, s string) []string) {
	t.Helper()
	eachOtherName(func(u impl.Tree, path []int, s string) {
		if got := f(u, path, s); len(got) != 0 {
			t.Errorf("%.20q in %v by %v is told %q", s, brief(u), brief(path), got)
		}
	})
}

// expectNames fails if names are not those of a model.
func expectNames(t *testing.T, w web, s string, got []string, want []string) {
	t.Helper()
	if !slices.Equal(got, want) {
		t.Errorf("%q in %v by %v is told %q, and not %q", s, w.tree, w.path, got, want)
	}
}

// expectPart fails if not all of some names are among others.
func expectPart(t *testing.T, w web, s string, part []string, all []string) {
	t.Helper()
	for _, name := range part {
		if !slices.Contains(all, name) {
			t.Errorf("%q in %v by %v: %q is not among %q", s, w.tree, w.path, name, all)
		}
	}
}

// expectOnce fails if a name is twice among some.
func expectOnce(t *testing.T, names []string) {
	t.Helper()
	for _, name := range names {
		if count(names, name) != 1 {
			t.Errorf("%q is twice in %q", name, names)
		}
	}
}

func TestP71NeedsAreNamed(t *testing.T) {
	counts := map[string]int{}
	eachWeb(func(w web, s string) {
		needs := impl.NeedsOf(w.tree, w.path, s)
		expectNames(t, w, s, needs, w.needs[s])
		expectOnce(t, needs)
		counts["needs "+strconv.Itoa(min(2, len(needs)))]++
		spec := looked(w.tree, w.path, s)
		if counts["kind "+strconv.Itoa(spec.Kind)]++; spec.File < 0 {
			return
		}
		for _, stmt := range w.tree.Files[spec.File].Body {
			counts["statement "+strconv.Itoa(stmt.Kind)+" "+strconv.Itoa(min(1, stmt.Level))]++
			if stmt.Kind == impl.SmImport || stmt.Kind == impl.SmStar {
				expectPart(t, w, s, []string{stmt.Module}, needs)
			}
		}
	})
	expectEnough(t, counts, 200, "needs 0", "needs 1", "needs 2", "kind 0", "kind 1", "kind 2", "kind 3", "statement 0 0", "statement 1 0", "statement 1 1", "statement 2 0")
	expectDrawn(t, impl.NeedsOf, func(d drawn) string { return d.needs })
	expectNothing(t, impl.NeedsOf)
}

// TestP71RelativeNamesAreNeeded checks what SmFrom needs by each level, in a package, in a module in it, and in one in none.
func TestP71RelativeNamesAreNeeded(t *testing.T) {
	for level := range 4 {
		for _, module := range []string{"", "c", "c.d", "c.d.e"} {
			if level == 0 && module == "" {
				continue
			}
			body := []impl.Stmt{{Kind: impl.SmSet, Name: "c"}, {Kind: impl.SmFrom, Module: module, Level: level, Name: "x"}}
			for _, f := range []impl.File{{Name: "a"}, {Package: "a", Init: true}, {Package: "a", Name: "b"}, {Package: "a.b", Init: true}, {Package: "a.b", Name: "c"}, {Package: "a.b.c", Init: true}} {
				f.Body = body
				var want []string
				if name := resolved(f.Package, level, module); name != "" {
					want = []string{name}
				}
				w := webOf(impl.Tree{Files: []impl.File{f}}, []int{0})
				expectNames(t, w, nameAt(f), impl.NeedsOf(w.tree, w.path, nameAt(f)), want)
			}
		}
	}
}

func TestP72EdgesHaveWhatIsAbove(t *testing.T) {
	deeper := 0
	eachWeb(func(w web, s string) {
		edges := impl.EdgesOf(w.tree, w.path, s)
		expectNames(t, w, s, edges, w.edges[s])
		expectOnce(t, edges)
		expectPart(t, w, s, w.needs[s], edges)
		for i, name := range edges {
			if above, _, deep := cutLast(name); deep {
				deeper++
				expectPart(t, w, s, []string{above}, edges[:i])
			}
		}
	})
	if deeper < 1000 {
		t.Errorf("only %d names have a parent", deeper)
	}
	expectDrawn(t, impl.EdgesOf, func(d drawn) string { return d.edges })
	expectNothing(t, impl.EdgesOf)
}

func TestP73ReachIsClosed(t *testing.T) {
	counts := map[string]int{}
	eachWeb(func(w web, s string) {
		reach := impl.ReachOf(w.tree, w.path, s)
		expectNames(t, w, s, reach, w.reach(s))
		expectPart(t, w, s, upTo(s), reach)
		for _, name := range reach {
			expectPart(t, w, s, upTo(name), reach)
			if w.finds(name) {
				expectPart(t, w, s, impl.EdgesOf(w.tree, w.path, name), reach)
			}
		}
		counts["reach "+strconv.Itoa(min(6, len(reach)))]++
	})
	expectEnough(t, counts, 200, "reach 1", "reach 2", "reach 3", "reach 4", "reach 5", "reach 6")
	expectDrawn(t, impl.ReachOf, func(d drawn) string { return d.reach })
	expectNothing(t, impl.ReachOf)
}

func TestP74WhatIsNotReachedIsNotRun(t *testing.T) {
	counts := map[string]int{}
	eachWeb(func(w web, s string) {
		if !w.simple(s) {
			return
		}
		start := impl.StartOrder(w.tree, w.path, s)
		expectPart(t, w, s, start, impl.ReachOf(w.tree, w.path, s))
		counts["start "+strconv.Itoa(min(3, len(start)))]++
	})
	expectEnough(t, counts, 200, "start 0", "start 1", "start 2", "start 3")
	// What is taken from a module is not reached, although a module in it may be run for that.
	u := treeOf("0 - q: from 0 a b", "0 a b:")
	if start, reach := impl.StartOrder(u, []int{0}, "q"), impl.ReachOf(u, []int{0}, "q"); strings.Join(start, " ") != "q a a.b" || strings.Join(reach, " ") != "a q" {
		t.Errorf("%q are reached, and %q run", reach, start)
	}
}

func TestP75MissingNamesAreReachedAndNotFound(t *testing.T) {
	counts := map[string]int{}
	eachWeb(func(w web, s string) {
		missing := impl.MissingOf(w.tree, w.path, s)
		expectNames(t, w, s, missing, w.missing(s))
		for _, name := range impl.ReachOf(w.tree, w.path, s) {
			if slices.Contains(missing, name) == impl.CanFind(w.tree, w.path, name) {
				t.Errorf("%q in %v by %v is missing, or is not: %q", name, w.tree, w.path, missing)
			}
		}
		counts["missing "+strconv.Itoa(min(3, len(missing)))]++
	})
	expectEnough(t, counts, 200, "missing 0", "missing 1", "missing 2", "missing 3")
	expectDrawn(t, impl.MissingOf, func(d drawn) string { return d.missing })
	expectNothing(t, impl.MissingOf)
}

func TestP76RingsHaveNamesThatUseThem(t *testing.T) {
	counts := map[string]int{}
	eachWeb(func(w web, s string) {
		rings := impl.RingsOf(w.tree, w.path, s)
		expectNames(t, w, s, rings, w.rings(s))
		for _, name := range rings {
			used := func(user string) bool { return slices.Contains(impl.EdgesOf(w.tree, w.path, user), name) }
			if !slices.ContainsFunc(rings, used) {
				t.Errorf("no name of %q uses %q in %v", rings, name, w.tree)
			}
			if used(name) {
				counts["itself"]++
			} else {
				counts["another one"]++
			}
		}
		counts["rings "+strconv.Itoa(min(3, len(rings)))]++
	})
	expectEnough(t, counts, 200, "rings 0", "rings 1", "rings 2", "rings 3", "itself", "another one")
	expectDrawn(t, impl.RingsOf, func(d drawn) string { return d.rings })
	expectNothing(t, impl.RingsOf)
}

// plainNames returns PlainOrder as one list of names, which is "no" if there is none.
func plainNames(u impl.Tree, path []int, s string) []string {
	order, ok := impl.PlainOrder(u, path, s)
	if !ok {
		return append(order, "no")
	}
	return order
}

func TestP77PlainModulesEndInThePlainOrder(t *testing.T) {
	counts := map[string]int{}
	eachWeb(func(w web, s string) {
		order, ok := impl.PlainOrder(w.tree, w.path, s)
		want, wantOk := w.plain(s)
		expectNames(t, w, s, order, want)
		if ok != wantOk || ok == (len(order) == 0) {
			t.Errorf("PlainOrder of %q in %v by %v is %q, %v", s, w.tree, w.path, order, ok)
		}
		if ok && w.simple(s) {
			end, _ := impl.ImportOne(w.tree, w.path, s)
			if end != impl.EnDone {
				t.Errorf("the import of %q in %v by %v ends with %d", s, w.tree, w.path, end)
			}
			expectNames(t, w, s, order, impl.DoneOrder(w.tree, w.path, s))
			counts["done "+strconv.Itoa(min(4, len(order)))]++
		}
		counts["ok "+strconv.FormatBool(ok)]++
	})
	expectEnough(t, counts, 100, "done 1", "done 2", "done 3", "done 4", "ok true", "ok false")
	expectDrawn(t, plainNames, func(d drawn) string { return d.plain })
	eachOtherName(func(u impl.Tree, path []int, s string) {
		if order, ok := impl.PlainOrder(u, path, s); ok || len(order) != 0 {
			t.Errorf("PlainOrder of %.20q in %v by %v is %q, %v", s, brief(u), brief(path), order, ok)
		}
	})
}

func TestP78NeedsEndBefore(t *testing.T) {
	counts := map[string]int{}
	eachWeb(func(w web, s string) {
		order, ok := impl.PlainOrder(w.tree, w.path, s)
		if !ok {
			return
		}
		if order[len(order)-1] != s {
			t.Errorf("%q is not the last one of %q", s, order)
		}
		expectOnce(t, order)
		for i, name := range order {
			expectPart(t, w, s, impl.EdgesOf(w.tree, w.path, name), order[:i])
			if above, _, deep := cutLast(name); deep {
				expectPart(t, w, s, []string{above}, order[:i])
				counts["parent"]++
			}
			counts["edges "+strconv.Itoa(min(2, len(w.edges[name])))]++
		}
	})
	expectEnough(t, counts, 200, "parent", "edges 0", "edges 1", "edges 2")
}

func TestP79SimpleBodiesOnlyEndByWhatIsMissing(t *testing.T) {
	counts := map[string]int{}
	eachWeb(func(w web, s string) {
		simple := impl.IsSimple(w.tree, w.path, s)
		if simple != w.simple(s) {
			t.Errorf("IsSimple of %q in %v by %v is %v", s, w.tree, w.path, simple)
		}
		r := impl.RunCommands(w.tree, w.path, importing(s), 120)
		if simple && (r.Ends[0] != impl.EnDone && r.Ends[0] != impl.EnMissing || len(r.Out) != 0) {
			t.Errorf("%q in %v by %v is simple, and ends so: %s", s, w.tree, w.path, resultText(r))
		}
		counts[strconv.FormatBool(simple)+" "+strconv.Itoa(r.Ends[0])]++
	})
	expectEnough(t, counts, 100, "true 0", "true 1", "false 0", "false 1", "false 2", "false 3", "false 4")
	for _, d := range drawings() {
		if simple := impl.IsSimple(treeOf(d.files...), []int{0, 1}, d.name); simple != d.simple {
			t.Errorf("IsSimple of %q in %q is %v", d.name, d.files, simple)
		}
	}
	for text, want := range map[string]bool{"import b": true, "star b": true, "set x 1": true, "from 0 b x": false, "from 1 - x": false, "print x": false, "fail": false} {
		if impl.IsSimple(treeOf("0 - a: set y 2; "+text+"; import b", "0 - b: set x 1"), []int{0}, "a") != want || impl.IsSimple(treeOf("0 - b: "+text, "0 - a: import b"), []int{0}, "a") != want {
			t.Errorf("IsSimple of %q is not %v", text, want)
		}
	}
	eachOtherName(func(u impl.Tree, path []int, s string) {
		if impl.IsSimple(u, path, s) {
			t.Errorf("IsSimple of %.20q in %v by %v", s, brief(u), brief(path))
		}
	})
}

func TestP80UsersLeadToWhatTheyUse(t *testing.T) {
	counts := map[string]int{}
	eachWeb(func(w web, s string) {
		users := impl.UsersOf(w.tree, w.path, s)
		expectNames(t, w, s, users, w.users(s))
		for _, user := range impl.FoundNames(w.tree, w.path) {
			if slices.Contains(users, user) != slices.Contains(impl.EdgesOf(w.tree, w.path, user), s) {
				t.Errorf("%q uses %q in %v, or does not: %q", user, s, w.tree, users)
			}
		}
		counts["users "+strconv.Itoa(min(3, len(users)))]++
		if !w.finds(s) && len(users) > 0 {
			counts["users of what is missing"]++
		}
	})
	expectEnough(t, counts, 200, "users 0", "users 1", "users 2", "users 3", "users of what is missing")
	expectDrawn(t, impl.UsersOf, func(d drawn) string { return d.users })
	expectNothing(t, impl.UsersOf)
}

// layersText returns layers, with a bar between two of them.
func layersText(layers [][]string) string {
	var texts []string
	for _, layer := range layers {
		texts = append(texts, strings.Join(layer, " "))
	}
	return strings.Join(texts, "|")
}

func TestP81LayersAreOneOnTheOther(t *testing.T) {
	counts := map[string]int{}
	eachWeb(func(w web, s string) {
		layers := impl.LayersOf(w.tree, w.path, s)
		if got, want := layersText(layers), layersText(w.layers(s)); got != want {
			t.Errorf("LayersOf %q in %v by %v is %s, and not %s", s, w.tree, w.path, got, want)
		}
		counts["layers "+strconv.Itoa(min(5, len(layers)))]++
		if len(layers) == 0 {
			return
		}
		var before []string
		for _, layer := range layers {
			if len(layer) == 0 || !slices.IsSorted(layer) {
				t.Errorf("a layer of %q in %v is %q", s, w.tree, layer)
			}
			for _, name := range layer {
				expectPart(t, w, s, impl.EdgesOf(w.tree, w.path, name), before)
				if above, _, deep := cutLast(name); deep {
					expectPart(t, w, s, []string{above}, before)
				}
			}
			before = append(before, layer...)
		}
		expectOnce(t, before)
		slices.Sort(before)
		expectNames(t, w, s, before, impl.ReachOf(w.tree, w.path, s))
	})
	expectEnough(t, counts, 100, "layers 0", "layers 1", "layers 2", "layers 3", "layers 4", "layers 5")
	for _, d := range drawings() {
		if layers := impl.LayersOf(treeOf(d.files...), []int{0, 1}, d.name); layersText(layers) != d.layers {
			t.Errorf("LayersOf %q in %q is %s, and not %s", d.name, d.files, layersText(layers), d.layers)
		}
	}
	eachOtherName(func(u impl.Tree, path []int, s string) {
		if layers := impl.LayersOf(u, path, s); len(layers) != 0 {
			t.Errorf("LayersOf %.20q in %v by %v is %q", s, brief(u), brief(path), layers)
		}
	})
}

// spoilNames changes names, and what lies behind them in their memory.
func spoilNames(names []string) {
	for i := range names[:cap(names)] {
		names[:cap(names)][i] = "spoilt"
	}
}

// TestGraphResultsAreFresh checks that results share no memory with arguments, with each other, or from call to call.
func TestGraphResultsAreFresh(t *testing.T) {
	u := treeOf("0 d *: set x 1; import e", "0 d g: import d; star e; import f", "0 e f: import g.h; import f", "0 - f:", "0 g h:")
	path := append(make([]int, 0, 16), 0, 1)
	want := copyOfTree(u)
	plain := func(u impl.Tree, path []int, s string) []string {
		order, _ := impl.PlainOrder(u, path, s)
		return order
	}
	for i, f := range []func(impl.Tree, []int, string) []string{impl.NeedsOf, impl.EdgesOf, impl.ReachOf, impl.MissingOf, impl.RingsOf, plain, impl.UsersOf} {
		for _, s := range []string{"d", "d.g", "e", "e.f", "f", "f.a", "g.h"} {
			first := slices.Clone(f(u, path, s))
			spoilNames(f(u, path, s))
			if again := f(u, path, s); !slices.Equal(again, first) || !sameTree(u, want) || !slices.Equal(path[:4], []int{0, 1, 0, 0}) {
				t.Errorf("the function %d tells %q of %q, and then %q", i, first, s, again)
			}
		}
	}
	layers := impl.LayersOf(u, path, "d.g")
	if layersText(layers) != "e f|d|d.g" {
		t.Fatalf("LayersOf d.g is %s", layersText(layers))
	}
	for i := range layers {
		layers := impl.LayersOf(u, path, "d.g")
		others := layersText(slices.Delete(slices.Clone(layers), i, i+1))
		spoilNames(layers[i])
		if rest := layersText(slices.Delete(layers, i, i+1)); rest != others {
			t.Errorf("the layer %d shares memory: %s is %s", i, others, rest)
		}
	}
}

// TestGraphLimits checks the graphs with the most names, the most edges, and the most layers.
func TestGraphLimits(t *testing.T) {
	var most, full, long []string
	letter := func(i int) string { return string(rune('a' + i)) }
	for i := range 12 {
		var wide, deep []string
		for j := range 8 {
			wide = append(wide, "import "+letter(i)+"x."+letter(j)+".z")
			deep = append(deep, "import "+letter((i+j+1)%12))
		}
		wide[0] = "import " + letter((i+1)%12)
		most = append(most, "0 - "+letter(i)+": "+strings.Join(wide, ";"))
		full = append(full, "0 - "+letter(i)+": "+strings.Join(deep, ";"))
		long = append(long, "0 - "+letter(i)+": set x 1"+strings.Repeat("; import "+letter(i+1), min(1, 11-i)))
	}
	path := []int{2, 1, 0}
	// Each of 12 modules has one name that is found, and 7 of three parts that are not, all in one package: 1 + 7 + 7 names.
	if reach, missing, rings := impl.ReachOf(treeOf(most...), path, "d"), impl.MissingOf(treeOf(most...), path, "d"), impl.RingsOf(treeOf(most...), path, "d"); len(reach) != 12*16 || len(missing) != 12*15 || len(rings) != 12 {
		t.Errorf("there are %d names, %d of which are missing, and %d on a ring", len(reach), len(missing), len(rings))
	}
	if reach, rings := impl.ReachOf(treeOf(full...), path, "d"), impl.RingsOf(treeOf(full...), path, "d"); len(reach) != 12 || !slices.Equal(reach, rings) || len(impl.UsersOf(treeOf(full...), path, "d")) != 8 {
		t.Errorf("there are %q, and %q on a ring", reach, rings)
	}
	order, ok := impl.PlainOrder(treeOf(long...), path, "a")
	if layers := impl.LayersOf(treeOf(long...), path, "a"); !ok || strings.Join(order, "") != "lkjihgfedcba" || layersText(layers) != "l|k|j|i|h|g|f|e|d|c|b|a" {
		t.Errorf("the longest order is %q, with the layers %s", order, layersText(layers))
	}
}

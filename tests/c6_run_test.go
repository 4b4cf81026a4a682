package tests

import (
	"fmt"
	"math"
	"math/rand"
	"slices"
	"strconv"
	"strings"
	"testing"

	"loop.example/importhouse/impl"
)

// Kinds of statements, of commands and of events have words, by which runs are told here.
var (
	stmtWords    = []string{"import", "from", "star", "set", "print", "fail"}
	commandWords = []string{"import", "reload", "forget"}
	eventMarks   = []string{"+", "-", "!", "="}
)

// undashed returns a word, "" for a dash.
func undashed(s string) string {
	if s == "-" {
		return ""
	}
	return s
}

// number returns the number that a word tells.
func number(s string) int {
	n, err := strconv.Atoi(s)
	if err != nil {
		panic(err)
	}
	return n
}

// stmtOf returns the statement that a text tells, as "import a.b", "from 1 - x", "star a", "set x 1", "print x" or "fail".
func stmtOf(text string) impl.Stmt {
	w := strings.Fields(text)
	s := impl.Stmt{Kind: slices.Index(stmtWords, w[0])}
	switch s.Kind {
	case impl.SmImport, impl.SmStar:
		s.Module = w[1]
	case impl.SmFrom:
		s.Level, s.Module, s.Name = number(w[1]), undashed(w[2]), w[3]
	case impl.SmSet:
		s.Name, s.Value = w[1], number(w[2])
	case impl.SmPrint:
		s.Name = w[1]
	}
	return s
}

// treeOf returns the tree with the files that texts tell, as "0 - a: set x 1; fail", with a dash for no package, and "0 a *"
// for the file of the package a.
func treeOf(texts ...string) impl.Tree {
	var t impl.Tree
	for _, text := range texts {
		at, body, _ := strings.Cut(text, ":")
		w := strings.Fields(at)
		f := impl.File{Root: number(w[0]), Package: undashed(w[1]), Name: w[2], Init: w[2] == "*"}
		if f.Init {
			f.Name = ""
		}
		for _, s := range strings.Split(body, ";") {
			if strings.TrimSpace(s) != "" {
				f.Body = append(f.Body, stmtOf(s))
			}
		}
		t.Files = append(t.Files, f)
	}
	return t
}

// commandsOf returns the commands that a text tells, as "import a; reload a; forget a".
func commandsOf(text string) []impl.Command {
	var list []impl.Command
	for _, c := range strings.Split(text, ";") {
		w := strings.Fields(c)
		list = append(list, impl.Command{Kind: slices.Index(commandWords, w[0]), Name: w[1]})
	}
	return list
}

// numbersText returns numbers, with a space between two of them.
func numbersText(list []int) string {
	var words []string
	for _, n := range list {
		words = append(words, strconv.Itoa(n))
	}
	return strings.Join(words, " ")
}

// logText returns a log, as "+a =b -a" for a that is begun, b that was in the cache, and a that ended, or "!a" if it failed.
func logText(log []impl.Event) string {
	var words []string
	for _, e := range log {
		words = append(words, eventMarks[e.Kind]+e.Name)
	}
	return strings.Join(words, " ")
}

// attrsText returns attributes, as "x=1 b=#2" for a number and for the module 2.
func attrsText(attrs []impl.Attr) string {
	var words []string
	for _, a := range attrs {
		words = append(words, a.Name+[]string{"=", "=#"}[a.Value.Kind]+strconv.Itoa(a.Value.Num))
	}
	return strings.Join(words, " ")
}

// moduleText returns a module, as "a: 2 [0] cd x=1": its kind and roots, c if it is in the cache, d if it is done, and attributes.
func moduleText(m impl.Module) string {
	flags := ""
	if m.Cached {
		flags += "c"
	}
	if m.Done {
		flags += "d"
	}
	return strings.Join(strings.Fields(fmt.Sprintf("%s: %d [%s] %s %s", m.Name, m.Kind, numbersText(m.Roots), flags, attrsText(m.Attrs))), " ")
}

// resultText returns a result, as "ends 0 | out 1 | log +a -a | left 119 | a: 1 [] cd x=1".
func resultText(r impl.Result) string {
	parts := []string{"ends " + numbersText(r.Ends), "out " + numbersText(r.Out), "log " + logText(r.Log), "left " + strconv.Itoa(r.Left)}
	for _, m := range r.Modules {
		parts = append(parts, moduleText(m))
	}
	for i := range parts {
		parts[i] = strings.TrimSpace(parts[i])
	}
	return strings.Join(parts, " | ")
}

// isZeroResult reports whether a result is that of other arguments.
func isZeroResult(r impl.Result) bool {
	return len(r.Ends) == 0 && len(r.Out) == 0 && len(r.Log) == 0 && len(r.Modules) == 0 && r.Left == 0
}

// story is a run that is told by hand. Its path is 0 and 1.
type story struct {
	files    []string
	commands string
	fuel     int
	want     string
}

// expectStories fails if a run is not as its story tells.
func expectStories(t *testing.T, stories []story) {
	t.Helper()
	for i, c := range stories {
		u, list := treeOf(c.files...), commandsOf(c.commands)
		if !impl.ValidTree(u) || !impl.ValidCommands(list) {
			t.Fatalf("the story %d is not valid", i)
		}
		if got := resultText(impl.RunCommands(u, []int{0, 1}, list, c.fuel)); got != c.want {
			t.Errorf("the story %d, %q of %q, is\n%s\nand not\n%s", i, c.commands, c.files, got, c.want)
		}
	}
}

// ended is what a machine panics with: how a body ends that is not done.
type ended int

// machine is a model of runs. It looks for modules by their whole names, and what does not end with EnDone is a panic that
// goes up through all imports. A machine with a look or a load of its own looks for modules, or loads bodies, by that.
type machine struct {
	tree    impl.Tree
	path    []int
	look    func(m *machine, s string) impl.Spec
	load    func(f impl.File) []impl.Stmt
	left    int
	cache   map[string]int
	modules []impl.Module
	out     []int
	log     []impl.Event
}

// endOf returns how a function ends.
func endOf(f func()) (end int) {
	defer func() {
		if e := recover(); e != nil {
			end = int(e.(ended))
		}
	}()
	f()
	return impl.EnDone
}

// check panics with an end if something is not so.
func check(ok bool, end int) {
	if !ok {
		panic(ended(end))
	}
}

// has returns where a module has an attribute, -1 if it has none.
func (m *machine) has(i int, name string) int {
	return slices.IndexFunc(m.modules[i].Attrs, func(a impl.Attr) bool { return a.Name == name })
}

// put gives a module an attribute.
func (m *machine) put(i int, name string, kind int, num int) {
	a := impl.Attr{Name: name, Value: impl.Value{Kind: kind, Num: num}}
	if at := m.has(i, name); at >= 0 {
		m.modules[i].Attrs[at] = a
	} else {
		m.modules[i].Attrs = append(m.modules[i].Attrs, a)
	}
}

// find looks for a name.
func (m *machine) find(s string) impl.Spec {
	if m.look != nil {
		return m.look(m, s)
	}
	return looked(m.tree, m.path, s)
}

// loaded returns the body that is run for a file, nil if there is none.
func (m *machine) loaded(file int) []impl.Stmt {
	if file < 0 {
		return nil
	}
	if m.load != nil {
		return m.load(m.tree.Files[file])
	}
	return m.tree.Files[file].Body
}

// use imports a name, and returns its module.
func (m *machine) use(s string) int {
	above, last, deep := cutLast(s)
	if _, known := m.cache[s]; !known && deep {
		m.use(above)
	}
	if i, known := m.cache[s]; known {
		m.log = append(m.log, impl.Event{Kind: impl.EvHit, Name: s})
		return i
	}
	spec := m.find(s)
	check(spec.Kind != impl.SpNone, impl.EnMissing)
	i := len(m.modules)
	m.modules = append(m.modules, impl.Module{Name: s, Kind: spec.Kind, Roots: spec.Roots, Cached: true})
	m.cache[s] = i
	if end := endOf(func() { m.body(i, spec.File) }); end != impl.EnDone {
		m.modules[i].Cached = false
		delete(m.cache, s)
		panic(ended(end))
	}
	m.modules[i].Done = true
	if up, known := m.cache[above]; known {
		m.put(up, last, impl.VaModule, i)
	}
	return i
}

// body runs the body of a file for a module.
func (m *machine) body(i int, file int) {
	name := m.modules[i].Name
	m.log = append(m.log, impl.Event{Kind: impl.EvStart, Name: name})
	end := endOf(func() {
		for _, s := range m.loaded(file) {
			check(m.left > 0, impl.EnFuel)
			m.left--
			m.step(i, s)
		}
	})
	if end != impl.EnDone {
		m.log = append(m.log, impl.Event{Kind: impl.EvFail, Name: name})
		panic(ended(end))
	}
	m.log = append(m.log, impl.Event{Kind: impl.EvDone, Name: name})
}

// step does a statement for a module.
func (m *machine) step(i int, s impl.Stmt) {
	switch s.Kind {
	case impl.SmImport:
		m.use(s.Module)
		first, _, _ := strings.Cut(s.Module, ".")
		top, known := m.cache[first]
		check(known, impl.EnMissing)
		m.put(i, first, impl.VaModule, top)
	case impl.SmFrom:
		v := m.taken(m.source(i, s), s.Name)
		m.put(i, s.Name, v.Kind, v.Num)
	case impl.SmStar:
		for _, a := range slices.Clone(m.modules[m.use(s.Module)].Attrs) {
			if !strings.HasPrefix(a.Name, "z") {
				m.put(i, a.Name, a.Value.Kind, a.Value.Num)
			}
		}
	case impl.SmSet:
		m.put(i, s.Name, impl.VaNum, s.Value)
	case impl.SmPrint:
		at := m.has(i, s.Name)
		check(at >= 0, impl.EnName)
		v := m.modules[i].Attrs[at].Value
		m.out = append(m.out, []int{v.Num, -1}[v.Kind])
	case impl.SmFail:
		panic(ended(impl.EnFail))
	}
}

// source imports the module from which a statement of a module takes a name.
func (m *machine) source(i int, s impl.Stmt) int {
	p := m.modules[i].Name
	if m.modules[i].Kind == impl.SpModule {
		p, _, _ = cutLast(p)
	}
	name := resolved(p, s.Level, s.Module)
	check(name != "", impl.EnRelative)
	return m.use(name)
}

// taken returns what a statement takes from a module.
func (m *machine) taken(i int, name string) impl.Value {
	if at := m.has(i, name); at >= 0 {
		return m.modules[i].Attrs[at].Value
	}
	child := m.modules[i].Name + "." + name
	_, known := m.cache[child]
	check(m.modules[i].Kind != impl.SpModule && strings.Count(child, ".") < 3, impl.EnAttr)
	check(known || m.find(child).Kind != impl.SpNone, impl.EnAttr)
	return impl.Value{Kind: impl.VaModule, Num: m.use(child)}
}

// command does a command.
func (m *machine) command(c impl.Command) {
	if c.Kind == impl.CoImport {
		m.use(c.Name)
		return
	}
	i, known := m.cache[c.Name]
	check(known, impl.EnMissing)
	if c.Kind == impl.CoForget {
		m.modules[i].Cached = false
		delete(m.cache, c.Name)
		return
	}
	above, _, deep := cutLast(c.Name)
	_, known = m.cache[above]
	check(known || !deep, impl.EnMissing)
	m.body(i, m.find(c.Name).File)
}

// ran is RunCommands of valid arguments.
func ran(t impl.Tree, path []int, list []impl.Command, fuel int) impl.Result {
	m := machine{tree: t, path: path, left: fuel, cache: map[string]int{}}
	var ends []int
	for _, c := range list {
		ends = append(ends, endOf(func() { m.command(c) }))
	}
	return impl.Result{Ends: ends, Out: m.out, Log: m.log, Modules: m.modules, Left: m.left}
}

// pick returns one of some texts.
func pick(r *rand.Rand, texts ...string) string {
	return texts[r.Intn(len(texts))]
}

// runNames has the names that are imported in runs.
var runNames = []string{"a", "b", "c", "d", "a.a", "a.b", "a.c", "b.a", "b.b", "c.a", "a.b.a", "a.b.b", "a.b.c", "b.a.a"}

// randomStmt returns a statement of a file in a package, which mostly names a module of a tree.
func randomStmt(r *rand.Rand, p string, names []string) impl.Stmt {
	name := pick(r, names...)
	if r.Intn(40) == 0 {
		name = pick(r, runNames...)
	}
	// Packages often import what is in them.
	if kin := slices.DeleteFunc(slices.Clone(names), func(s string) bool { return s == p || !impl.IsUnder(s, p) }); len(kin) > 0 && r.Intn(2) == 0 {
		name = pick(r, kin...)
	}
	part := pick(r, "a", "b", "x", "x", "x", "x", "x", "x", "y", "zx")
	switch r.Intn(40) {
	case 0, 1, 2, 3, 4, 5, 6, 7, 8:
		return impl.Stmt{Kind: impl.SmImport, Module: name}
	case 9, 10, 11:
		return impl.Stmt{Kind: impl.SmFrom, Module: name, Name: part}
	case 12, 13, 14, 15, 16:
		// The last part is taken from what is above it, told as a relative name if there is one.
		above, last, _ := cutLast(name)
		if level, rest := impl.RelativeName(p, above); level > 0 && level < 4 {
			return impl.Stmt{Kind: impl.SmFrom, Module: rest, Level: level, Name: last}
		}
		return impl.Stmt{Kind: impl.SmFrom, Module: above, Level: max(0, 1-len(above)), Name: last}
	case 17:
		return impl.Stmt{Kind: impl.SmFrom, Module: pick(r, "", "a", "b"), Level: 1 + r.Intn(3), Name: part}
	case 18, 19, 20, 21:
		return impl.Stmt{Kind: impl.SmStar, Module: name}
	case 22, 23, 24:
		return impl.Stmt{Kind: impl.SmPrint, Name: part}
	case 25:
		return impl.Stmt{Kind: impl.SmFail}
	}
	return impl.Stmt{Kind: impl.SmSet, Name: part, Value: r.Intn(100)}
}

// runTree returns a tree of which the bodies import each other.
func runTree(r *rand.Rand) impl.Tree {
	var t impl.Tree
	packages := []string{"", "", "", "a", "a", "b", "a.b", "a.b"}
	for range 1 + r.Intn(12) {
		f := impl.File{Root: r.Intn(2), Package: pick(r, packages...), Name: pick(r, "a", "b", "c")}
		if f.Package != "" && r.Intn(5) < 2 {
			f.Init, f.Name = true, ""
		}
		if !slices.ContainsFunc(t.Files, func(g impl.File) bool { return samePlace(f, g) }) {
			t.Files = append(t.Files, f)
		}
	}
	var names []string
	for _, f := range t.Files {
		names = append(names, nameAt(f))
	}
	// Where bodies are short, and begin with what they are asked for, more imports end with EnDone.
	most := 2 + r.Intn(4)
	for i := range t.Files {
		f := &t.Files[i]
		if r.Intn(2) == 0 {
			f.Body = append(f.Body, impl.Stmt{Kind: impl.SmSet, Name: "x", Value: r.Intn(100)})
		}
		for range r.Intn(most) {
			f.Body = append(f.Body, randomStmt(r, f.Package, names))
		}
	}
	return t
}

// runPath returns a search path of which most look at both roots.
func runPath(r *rand.Rand) []int {
	return [][]int{{0, 1}, {1, 0}, {0, 1}, {1, 0}, {0, 2, 1}, {0}}[r.Intn(6)]
}

// randomCommands returns commands of which some do something with what was just imported.
func randomCommands(r *rand.Rand, t impl.Tree) []impl.Command {
	var list []impl.Command
	for range r.Intn(11) {
		c := impl.Command{Kind: []int{0, 0, 0, 1, 2}[r.Intn(5)], Name: pick(r, runNames...)}
		if r.Intn(5) > 0 {
			c.Name = nameAt(t.Files[r.Intn(len(t.Files))])
		}
		if above, _, deep := cutLast(c.Name); deep && r.Intn(4) == 0 {
			c.Name = above
		}
		if len(list) > 0 && r.Intn(3) == 0 {
			c.Name = list[len(list)-1].Name
		}
		list = append(list, c)
	}
	return list
}

// eachRun calls a function with the arguments of many runs, and with their results.
func eachRun(runs int, f func(u impl.Tree, path []int, list []impl.Command, fuel int, got impl.Result)) {
	r := rand.New(rand.NewSource(600))
	for range runs {
		u, path := runTree(r), runPath(r)
		fuel := 120
		if r.Intn(6) == 0 {
			fuel = r.Intn(12)
		}
		list := randomCommands(r, u)
		f(u, path, list, fuel, impl.RunCommands(u, path, list, fuel))
	}
}

// eachDone calls a function with the arguments of runs of which the last command imports, and ends with EnDone.
func eachDone(f func(u impl.Tree, path []int, list []impl.Command, fuel int, got impl.Result)) {
	eachRun(2500, func(u impl.Tree, path []int, list []impl.Command, fuel int, got impl.Result) {
		for i, c := range list {
			if c.Kind == impl.CoImport && i < 8 && i < len(got.Ends) && got.Ends[i] == impl.EnDone {
				f(u, path, slices.Clone(list[:i+1]), fuel, impl.RunCommands(u, path, list[:i+1], fuel))
			}
		}
	})
}

// importing returns the command that imports a name.
func importing(s string) []impl.Command {
	return []impl.Command{{Kind: impl.CoImport, Name: s}}
}

// eachAlone calls a function with trees, paths and names, and with the results of the imports of these alone.
func eachAlone(f func(u impl.Tree, path []int, s string, alone impl.Result)) {
	r := rand.New(rand.NewSource(601))
	for range 3000 {
		u, path := runTree(r), runPath(r)
		for _, s := range append(impl.FoundNames(u, path), pick(r, runNames...)) {
			f(u, path, s, impl.RunCommands(u, path, importing(s), 120))
		}
	}
}

// eachOtherName calls a function with a tree, a path and a text of which one is not valid.
func eachOtherName(f func(u impl.Tree, path []int, s string)) {
	eachOtherLook(func(u impl.Tree, path []int) {
		for _, s := range []string{"a", "b", "d", "m", "p.a", "b.c", ""} {
			f(u, path, s)
		}
	})
	for _, s := range oddNames() {
		f(lookTree(), []int{0, 1, 2}, s)
		f(handTree(), nil, s)
	}
}

// inCache returns the module with a name in the cache, -1 if there is none.
func inCache(r impl.Result, s string) int {
	return slices.IndexFunc(r.Modules, func(m impl.Module) bool { return m.Cached && m.Name == s })
}

// eventsOf returns the names of the events of a kind.
func eventsOf(log []impl.Event, kind int) []string {
	var names []string
	for _, e := range log {
		if e.Kind == kind {
			names = append(names, e.Name)
		}
	}
	return names
}

// count returns how often a text is among others.
func count(texts []string, s string) int {
	n := 0
	for _, text := range texts {
		if text == s {
			n++
		}
	}
	return n
}

// expectEnough fails if something was seen too rarely to be checked.
func expectEnough(t *testing.T, counts map[string]int, least int, whats ...string) {
	t.Helper()
	for _, what := range whats {
		if counts[what] < least {
			t.Errorf("%s is seen too rarely: %v", what, counts)
		}
	}
}

// otherCommands returns commands that are not valid.
func otherCommands() [][]impl.Command {
	lists := [][]impl.Command{slices.Repeat(importing("a"), 11), make([]impl.Command, 1), make([]impl.Command, 11), make([]impl.Command, 1000000)}
	add := func(c impl.Command) {
		lists = append(lists, [][]impl.Command{{c}, {{Name: "a"}, c}, {c, {Kind: 2, Name: "a"}}, append(slices.Repeat(importing("b"), 9), c)}[len(lists)%4])
	}
	for _, kind := range append([]int{3, 4}, otherNumbers...) {
		add(impl.Command{Kind: kind, Name: "a"})
		add(impl.Command{Kind: kind, Name: "a.b"})
	}
	for _, s := range oddNames() {
		for kind := range 3 {
			add(impl.Command{Kind: kind, Name: s})
		}
	}
	return lists
}

func TestP57CommandsCanBeLeftOut(t *testing.T) {
	r := rand.New(rand.NewSource(602))
	lists := [][]impl.Command{nil, {}, slices.Repeat(importing("abc.abc.zzz"), 10)}
	for range 300 {
		lists = append(lists, randomCommands(r, handTree()))
	}
	for _, list := range lists {
		if !impl.ValidCommands(list) {
			t.Fatalf("%v is valid", list)
		}
		for i := range list {
			if !impl.ValidCommands(slices.Delete(slices.Clone(list), i, i+1)) {
				t.Errorf("%v is not valid without the command %d", list, i)
			}
		}
	}
	for _, list := range otherCommands() {
		if impl.ValidCommands(list) {
			t.Errorf("%v is not valid", brief(list))
		}
	}
}

func TestP57OtherArgumentsDoNotRun(t *testing.T) {
	expectZero := func(u impl.Tree, path []int, list []impl.Command, fuel int) {
		t.Helper()
		if r := impl.RunCommands(u, path, list, fuel); !isZeroResult(r) {
			t.Errorf("RunCommands of %v by %v with %v and %d is %v", brief(u), brief(path), brief(list), fuel, r)
		}
	}
	for _, list := range otherCommands() {
		expectZero(lookTree(), []int{0, 1, 2}, list, 120)
	}
	eachOtherLook(func(u impl.Tree, path []int) {
		expectZero(u, path, nil, 120)
		expectZero(u, path, commandsOf("import a; import b; import d; import m; import p.a; import zzz"), 120)
	})
	for _, fuel := range []int{-1, -2, 121, 122, 1000, math.MaxInt, math.MinInt} {
		expectZero(lookTree(), []int{0, 1, 2}, nil, fuel)
		expectZero(lookTree(), []int{0, 1, 2}, importing("d"), fuel)
	}
}

func TestP58CommandsFollowEachOther(t *testing.T) {
	eachRun(1500, func(u impl.Tree, path []int, list []impl.Command, fuel int, got impl.Result) {
		if len(got.Ends) != len(list) {
			t.Fatalf("%v ends with %v", list, got.Ends)
		}
		for i := range list {
			first := impl.RunCommands(u, path, list[:i], fuel)
			if !slices.Equal(first.Ends, got.Ends[:i]) || len(first.Out) > len(got.Out) || !slices.Equal(first.Out, got.Out[:len(first.Out)]) || len(first.Log) > len(got.Log) || !slices.Equal(first.Log, got.Log[:len(first.Log)]) || len(first.Modules) > len(got.Modules) || first.Left < got.Left {
				t.Errorf("%v is %s, and the first %d of them %s", list, resultText(got), i, resultText(first))
			}
		}
	})
}

// TestP58RunsAreAsTold compares runs with those of a machine.
func TestP58RunsAreAsTold(t *testing.T) {
	counts := map[string]int{}
	eachRun(20000, func(u impl.Tree, path []int, list []impl.Command, fuel int, got impl.Result) {
		if want := ran(u, path, list, fuel); resultText(got) != resultText(want) {
			t.Fatalf("%v by %v with %v and %d is\n%s\nand not\n%s", u, path, list, fuel, resultText(got), resultText(want))
		}
		for i, c := range list {
			counts[commandWords[c.Kind]+" "+strconv.Itoa(got.Ends[i])]++
		}
		counts["out"] += len(got.Out)
		counts["hit"] += len(eventsOf(got.Log, impl.EvHit))
	})
	expectEnough(t, counts, 1000, "import 0", "import 1", "import 2", "import 3", "import 4", "import 5", "import 6", "reload 0", "reload 1", "forget 0", "forget 1", "out", "hit")
	expectEnough(t, counts, 50, "reload 6")
}

func TestP58FuelIsShared(t *testing.T) {
	two := []string{"0 - a: set x 1; set y 2"}
	expectStories(t, []story{
		{[]string{"0 - a:"}, "import a", 0, "ends 0 | out | log +a -a | left 0 | a: 1 [] cd"},
		{two, "import a", 0, "ends 6 | out | log +a !a | left 0 | a: 1 []"},
		{two, "import a", 1, "ends 6 | out | log +a !a | left 0 | a: 1 [] x=1"},
		{two, "import a", 2, "ends 0 | out | log +a -a | left 0 | a: 1 [] cd x=1 y=2"},
		{two, "import a", 120, "ends 0 | out | log +a -a | left 118 | a: 1 [] cd x=1 y=2"},
		{[]string{"0 - a: set x 1", "0 - b: set x 1"}, "import a; import b; import a; reload a; forget a; import a", 1,
			"ends 0 6 0 6 0 6 | out | log +a -a +b !b =a +a !a +a !a | left 0 | a: 1 [] d x=1 | b: 1 [] | a: 1 []"},
		{[]string{"0 - a: import b; set x 1", "0 - b: set y 1"}, "import a", 2, "ends 6 | out | log +a +b -b !a | left 0 | a: 1 [] b=#1 | b: 1 [] cd y=1"},
		{[]string{"0 - a: import b; set x 1", "0 - b: set y 1"}, "import a", 1, "ends 6 | out | log +a +b !b !a | left 0 | a: 1 [] | b: 1 []"},
		{[]string{"0 - a: fail; set x 1"}, "import a", 5, "ends 4 | out | log +a !a | left 4 | a: 1 []"},
		{[]string{"0 - a:"}, "import b; reload b; forget b; import a", 3, "ends 1 1 1 0 | out | log +a -a | left 3 | a: 1 [] cd"},
	})
	for _, fuel := range []int{0, 7, 120} {
		if r := impl.RunCommands(lookTree(), nil, nil, fuel); resultText(r) != "ends | out | log | left "+strconv.Itoa(fuel) {
			t.Errorf("no commands are %s", resultText(r))
		}
	}
}

func TestP58WhatIsPrinted(t *testing.T) {
	expectStories(t, []story{
		{[]string{"0 - a: set x 0; print x; set x 99; print x; print y; print x"}, "import a", 120, "ends 3 | out 0 99 | log +a !a | left 115 | a: 1 [] x=99"},
		{[]string{"0 - a: import a; print a; set a 3; print a"}, "import a", 120, "ends 0 | out -1 3 | log +a =a -a | left 116 | a: 1 [] cd a=3"},
		{[]string{"0 - a: set x 1; import b; print x", "0 - b: set x 2; print x"}, "import a", 120,
			"ends 0 | out 2 1 | log +a +b -b -a | left 115 | a: 1 [] cd x=1 b=#1 | b: 1 [] cd x=2"},
	})
}

func TestP59NoTwoModulesInTheCacheHaveOneName(t *testing.T) {
	counts := map[string]int{}
	eachRun(5000, func(u impl.Tree, path []int, list []impl.Command, fuel int, got impl.Result) {
		for i, m := range got.Modules {
			if m.Cached && inCache(got, m.Name) != i {
				t.Errorf("two modules of %s are in the cache", resultText(got))
			}
			if spec := impl.FindSpec(u, path, m.Name); spec.Kind == impl.SpNone || spec.Kind != m.Kind || !slices.Equal(spec.Roots, m.Roots) {
				t.Errorf("%s is found as %v", moduleText(m), spec)
			}
			above, _, deep := cutLast(m.Name)
			if deep && !slices.ContainsFunc(got.Modules[:i], func(n impl.Module) bool { return n.Name == above }) {
				t.Errorf("in %s nothing is above the module %d", resultText(got), i)
			}
			if slices.ContainsFunc(got.Modules[:i], func(n impl.Module) bool { return n.Name == m.Name }) {
				counts["again"]++
			}
			counts[strconv.Itoa(m.Kind)]++
		}
	})
	expectEnough(t, counts, 1000, "1", "2", "3", "again")
}

func TestP59ModulesAreFoundAsTold(t *testing.T) {
	expectStories(t, []story{
		{[]string{"1 - a: set x 1", "0 - a: set x 2"}, "import a", 120, "ends 0 | out | log +a -a | left 119 | a: 1 [] cd x=2"},
		{[]string{"0 - a: set x 1", "0 a *: set x 2"}, "import a", 120, "ends 0 | out | log +a -a | left 119 | a: 2 [0] cd x=2"},
		{[]string{"2 - a:", "0 - b:"}, "import a; import b", 120, "ends 1 0 | out | log +b -b | left 120 | b: 1 [] cd"},
		{[]string{"0 a *:", "1 a b:"}, "import a.b", 120, "ends 1 | out | log +a -a | left 120 | a: 2 [0] cd"},
		{[]string{"0 - a:", "0 a b:"}, "import a.b", 120, "ends 1 | out | log +a -a | left 120 | a: 1 [] cd"},
		{[]string{"0 d f:", "1 d g: import d.f", "1 d.e *:"}, "import d.g; import d.e", 120,
			"ends 0 0 | out | log +d -d +d.g =d +d.f -d.f -d.g =d +d.e -d.e | left 119 | d: 3 [0 1] cd f=#2 g=#1 e=#3 | d.g: 1 [] cd d=#0 | d.f: 1 [] cd | d.e: 2 [1] cd"},
		{[]string{"0 a *: set x 1", "0 a b: import a.c; print a", "1 a c:", "0 a c:"}, "import a.b", 120,
			"ends 0 | out -1 | log +a -a +a.b =a +a.c -a.c -a.b | left 117 | a: 2 [0] cd x=1 c=#2 b=#1 | a.b: 1 [] cd a=#0 | a.c: 1 [] cd"},
		{[]string{"1 a.b c: set x 3", "0 - q: import a.b.c; print a"}, "import q", 120,
			"ends 0 | out -1 | log +q +a -a +a.b -a.b +a.b.c -a.b.c -q | left 117 | q: 1 [] cd a=#1 | a: 3 [1] cd b=#2 | a.b: 3 [1] cd c=#3 | a.b.c: 1 [] cd x=3"},
	})
}

func TestP60EachBodyThatBeginsEnds(t *testing.T) {
	counts := map[string]int{}
	eachRun(5000, func(u impl.Tree, path []int, list []impl.Command, fuel int, got impl.Result) {
		var open []string
		for _, e := range got.Log {
			counts[eventMarks[e.Kind]]++
			if e.Kind == impl.EvStart {
				open = append(open, e.Name)
			}
			if e.Kind != impl.EvDone && e.Kind != impl.EvFail {
				continue
			}
			if len(open) == 0 || open[len(open)-1] != e.Name {
				t.Fatalf("in %s %q ends, and not the last one of %q", logText(got.Log), e.Name, open)
			}
			open = open[:len(open)-1]
		}
		if len(open) > 0 {
			t.Errorf("in %s %q do not end", logText(got.Log), open)
		}
	})
	expectEnough(t, counts, 1000, "+", "-", "!", "=")
}

// TestP60FailuresGoUp checks that the bodies on the way to one that fails fail, too, and that others stay in the cache.
func TestP60FailuresGoUp(t *testing.T) {
	expectStories(t, []story{
		{[]string{"0 - a: import b; set x 1", "0 - b: import a; fail"}, "import a", 120, "ends 4 | out | log +a +b =a !b !a | left 117 | a: 1 [] | b: 1 [] a=#0"},
		{[]string{"0 - a: import b; fail", "0 - b: import a"}, "import a; import b; import a", 120,
			"ends 4 0 4 | out | log +a +b =a -b !a =b +a =b !a | left 115 | a: 1 [] b=#1 | b: 1 [] cd a=#0 | a: 1 [] b=#1"},
		{[]string{"0 - a: set x 1; import q; set y 1"}, "import a", 120, "ends 1 | out | log +a !a | left 118 | a: 1 [] x=1"},
		{[]string{"0 - a: import b", "0 - b: star c", "0 - c: from 0 d x", "0 - d: print x"}, "import a", 120,
			"ends 3 | out | log +a +b +c +d !d !c !b !a | left 116 | a: 1 [] | b: 1 [] | c: 1 [] | d: 1 []"},
		{[]string{"0 a *: import a.b; fail", "0 a b: set x 1", "0 - q: import a.b"}, "import a; import a.b; import q; import a", 120,
			"ends 4 0 1 4 | out | log +a =a +a.b -a.b !a =a.b +q =a.b !q +a =a.b !a | left 114 | a: 2 [0] b=#1 a=#0 | a.b: 1 [] cd x=1 | q: 1 [] | a: 2 [0] a=#3"},
		{[]string{"0 a *: import a.b; set x 1", "0 a b: from 0 a x"}, "import a.b", 120, "ends 2 | out | log +a =a +a.b =a !a.b !a | left 118 | a: 2 [0] | a.b: 1 []"},
		{[]string{"0 a *: fail", "0 a b:"}, "import a.b", 120, "ends 4 | out | log +a !a | left 119 | a: 2 [0]"},
	})
}

func TestP61WhatIsImportedIsNotRunAgain(t *testing.T) {
	n := 0
	eachDone(func(u impl.Tree, path []int, list []impl.Command, fuel int, got impl.Result) {
		n++
		last := list[len(list)-1]
		want := got
		want.Ends = append(slices.Clone(got.Ends), impl.EnDone)
		want.Log = append(slices.Clone(got.Log), impl.Event{Kind: impl.EvHit, Name: last.Name})
		if again := impl.RunCommands(u, path, append(list, last), fuel); resultText(again) != resultText(want) {
			t.Errorf("%v once more is\n%s\nand not\n%s", list, resultText(again), resultText(want))
		}
	})
	if n < 2000 {
		t.Errorf("only %d imports end with EnDone", n)
	}
}

// TestP61RingsAreNotRunAgain checks rings, and packages that import what is in them.
func TestP61RingsAreNotRunAgain(t *testing.T) {
	expectStories(t, []story{
		{[]string{"0 - a: import b; set x 1; import b", "0 - b: import a; set y 2"}, "import a", 120,
			"ends 0 | out | log +a +b =a -b =b -a | left 115 | a: 1 [] cd b=#1 x=1 | b: 1 [] cd a=#0 y=2"},
		{[]string{"0 - a: import a; print a"}, "import a; import a", 120, "ends 0 0 | out -1 | log +a =a -a =a | left 118 | a: 1 [] cd a=#0"},
		{[]string{"0 a *: set x 1; import a.b", "0 a b: from 0 a x"}, "import a.b", 120,
			"ends 0 | out | log +a =a +a.b =a -a.b -a =a.b | left 117 | a: 2 [0] cd x=1 b=#1 a=#0 | a.b: 1 [] cd x=1"},
		{[]string{"0 a *: set b 7; import a.b; print b; set b 8", "0 a b:"}, "import a", 120,
			"ends 0 | out -1 | log +a =a +a.b -a.b -a | left 116 | a: 2 [0] cd b=8 a=#0 | a.b: 1 [] cd"},
		{[]string{"0 a *: from 1 - b", "0 a b: from 1 - c", "0 a c: from 1 - b; from 1 - b"}, "import a", 120,
			"ends 0 | out | log +a =a =a +a.b =a =a +a.c =a =a.b =a =a.b -a.c -a.b -a | left 116 | a: 2 [0] cd c=#2 b=#1 | a.b: 1 [] cd c=#2 | a.c: 1 [] cd b=#1"},
		{[]string{"0 - a: set x 1; import b; set y 2", "0 - b: star a"}, "import a", 120, "ends 0 | out | log +a +b =a -b -a | left 116 | a: 1 [] cd x=1 b=#1 y=2 | b: 1 [] cd x=1"},
	})
}

func TestP62ReloadingKeepsTheModule(t *testing.T) {
	counts := map[string]int{}
	eachDone(func(u impl.Tree, path []int, list []impl.Command, fuel int, got impl.Result) {
		s := list[len(list)-1].Name
		at := inCache(got, s)
		again := impl.RunCommands(u, path, append(list, impl.Command{Kind: impl.CoReload, Name: s}), fuel)
		if above, _, deep := cutLast(s); deep && inCache(got, above) < 0 {
			want := got
			want.Ends = append(slices.Clone(got.Ends), impl.EnMissing)
			if counts["missing"]++; resultText(again) != resultText(want) {
				t.Errorf("a reload of %q without its parent in %s is %s", s, resultText(got), resultText(again))
			}
			return
		}
		counts["end "+strconv.Itoa(again.Ends[len(list)])]++
		begun := eventsOf(again.Log[len(got.Log):], impl.EvStart)
		if len(begun) == 0 || begun[0] != s || count(begun, s) != 1 || inCache(again, s) != at || !again.Modules[at].Done {
			t.Errorf("a reload of %q after %s is %s", s, resultText(got), resultText(again))
		}
		for _, m := range again.Modules[len(got.Modules):] {
			if m.Name == s {
				t.Errorf("a reload of %q makes it anew: %s", s, resultText(again))
			}
		}
	})
	expectEnough(t, counts, 1000, "end 0")
	expectEnough(t, counts, 20, "end 6", "missing")
}

func TestP62Reloads(t *testing.T) {
	expectStories(t, []story{
		{[]string{"0 - a: set x 1; print x"}, "import a; reload a", 120, "ends 0 0 | out 1 1 | log +a -a +a -a | left 116 | a: 1 [] cd x=1"},
		// What is reloaded gives nothing to its parent.
		{[]string{"0 a *: set b 5; set x 1", "0 a b:"}, "import a.b; reload a; reload a.b", 120,
			"ends 0 0 0 | out | log +a -a +a.b -a.b +a -a +a.b -a.b | left 116 | a: 2 [0] cd b=5 x=1 | a.b: 1 [] cd"},
		// What fails when it is reloaded stays in the cache, and done.
		{[]string{"0 a b:", "0 - q: set x 1; import a.b; set y 2"}, "import q; forget a; reload q; import q", 120,
			"ends 0 0 1 0 | out | log +q +a -a +a.b -a.b -q +q =a.b !q =q | left 115 | q: 1 [] cd x=1 a=#1 y=2 | a: 3 [0] d b=#2 | a.b: 1 [] cd"},
		{[]string{"0 - a: set x 1; set y 2"}, "import a; reload a; import a", 3, "ends 0 6 0 | out | log +a -a +a !a =a | left 0 | a: 1 [] cd x=1 y=2"},
		{[]string{"0 a *:", "0 a b: set x 1"}, "import a.b; forget a; reload a.b; import a.b; reload a", 120,
			"ends 0 0 1 0 1 | out | log +a -a +a.b -a.b =a.b | left 119 | a: 2 [0] d b=#1 | a.b: 1 [] cd x=1"},
		{[]string{"0 a *: set x 1", "0 a b: set x 1"}, "reload a; reload a.b; reload q", 120, "ends 1 1 1 | out | log | left 120"},
		{[]string{"0 a b:"}, "import a; reload a", 120, "ends 0 0 | out | log +a -a +a -a | left 120 | a: 3 [0] cd"},
		{[]string{"0 - a: import b; print b", "0 - b: import a"}, "import a; forget b; reload a", 120,
			"ends 0 0 0 | out -1 -1 | log +a +b =a -b -a +a +b =a -b -a | left 114 | a: 1 [] cd b=#2 | b: 1 [] d a=#0 | b: 1 [] cd a=#0"},
		{[]string{"0 - a: fail"}, "import a; reload a", 120, "ends 4 1 | out | log +a !a | left 119 | a: 1 []"},
	})
}

func TestP63WhatIsForgottenIsImportedAnew(t *testing.T) {
	counts := map[string]int{}
	eachDone(func(u impl.Tree, path []int, list []impl.Command, fuel int, got impl.Result) {
		s := list[len(list)-1].Name
		list = append(list, impl.Command{Kind: impl.CoForget, Name: s})
		gone := impl.RunCommands(u, path, list, fuel)
		want := got
		want.Ends = append(slices.Clone(got.Ends), impl.EnDone)
		want.Modules = slices.Clone(got.Modules)
		want.Modules[inCache(got, s)].Cached = false
		if resultText(gone) != resultText(want) {
			t.Errorf("without %q it is\n%s\nand not\n%s", s, resultText(gone), resultText(want))
		}
		if above, _, deep := cutLast(s); deep && inCache(got, above) < 0 {
			counts["without parent"]++
			return
		}
		again := impl.RunCommands(u, path, append(list, importing(s)...), fuel)
		var anew []string
		for _, m := range again.Modules[len(got.Modules):] {
			anew = append(anew, m.Name)
		}
		if counts["end "+strconv.Itoa(again.Ends[len(list)])]++; len(anew) == 0 || anew[0] != s || count(anew, s) != 1 {
			t.Errorf("%q is imported anew as %s, and before it was %s", s, resultText(again), resultText(got))
		}
	})
	expectEnough(t, counts, 1000, "end 0")
	expectEnough(t, counts, 20, "end 6", "without parent")
}

func TestP63Forgets(t *testing.T) {
	pack := []string{"0 a *:", "0 a b:", "0 a c:", "0 - q: from 0 a b"}
	expectStories(t, []story{
		{[]string{"0 - a: set x 1", "0 - b: import a; print a"}, "import b; forget a; import a; forget a; forget a; import b; reload b", 120,
			"ends 0 0 0 0 1 0 0 | out -1 -1 | log +b +a -a -b +a -a =b +b +a -a -b | left 113 | b: 1 [] cd a=#3 | a: 1 [] d x=1 | a: 1 [] d x=1 | a: 1 [] cd x=1"},
		{pack, "import a.b; forget a; import a.c", 120,
			"ends 0 0 0 | out | log +a -a +a.b -a.b +a -a +a.c -a.c | left 120 | a: 2 [0] d b=#1 | a.b: 1 [] cd | a: 2 [0] cd c=#3 | a.c: 1 [] cd"},
		{pack, "import a.b; forget a.b; import a.b", 120, "ends 0 0 0 | out | log +a -a +a.b -a.b =a +a.b -a.b | left 120 | a: 2 [0] cd b=#2 | a.b: 1 [] d | a.b: 1 [] cd"},
		{pack, "import a.b; forget a.b; import q", 120, "ends 0 0 0 | out | log +a -a +a.b -a.b +q =a -q | left 119 | a: 2 [0] cd b=#1 | a.b: 1 [] d | q: 1 [] cd b=#1"},
		{pack, "import a.b; forget a; import q", 120,
			"ends 0 0 0 | out | log +a -a +a.b -a.b +q +a -a =a.b -q | left 119 | a: 2 [0] d b=#1 | a.b: 1 [] cd | q: 1 [] cd b=#1 | a: 2 [0] cd"},
		{[]string{"0 a *: import a.b", "0 a b:"}, "import a; forget a; forget a.b; import a.b", 120,
			"ends 0 0 0 0 | out | log +a =a +a.b -a.b -a +a =a +a.b -a.b -a =a.b | left 118 | a: 2 [0] d b=#1 a=#0 | a.b: 1 [] d | a: 2 [0] cd b=#3 a=#2 | a.b: 1 [] cd"},
		{[]string{"0 - a: fail", "0 b *:"}, "forget a; import a; forget a; import b; forget b.c; forget b", 120,
			"ends 1 4 1 0 1 0 | out | log +a !a +b -b | left 119 | a: 1 [] | b: 2 [0] d"},
	})
}

func TestP64ImportsLoadWhatIsAbove(t *testing.T) {
	counts := map[string]int{}
	eachAlone(func(u impl.Tree, path []int, s string, alone impl.Result) {
		end, list := impl.ImportOne(u, path, s)
		var want []string
		for _, m := range alone.Modules {
			if m.Cached {
				want = append(want, m.Name)
			}
		}
		if end != alone.Ends[0] || !slices.Equal(list, want) {
			t.Errorf("ImportOne of %q is %d, %q, and not %s", s, end, list, resultText(alone))
		}
		counts["end "+strconv.Itoa(end)]++
		for _, name := range impl.NamesAbove(s) {
			if end == impl.EnDone && !slices.Contains(list, name) {
				t.Errorf("the import of %q is done without %q: %q", s, name, list)
			}
		}
		if end != impl.EnDone && !strings.Contains(s, ".") && slices.Contains(list, s) {
			t.Errorf("%q is not done, and in the cache: %q", s, list)
		}
		if end != impl.EnDone && slices.Contains(list, s) {
			counts["there, and not done"]++
		}
	})
	expectEnough(t, counts, 100, "end 0", "end 1", "end 2", "end 3", "end 4", "end 5", "there, and not done")
	// After other commands what is above may be forgotten, but the module is there.
	eachRun(2000, func(u impl.Tree, path []int, list []impl.Command, fuel int, _ impl.Result) {
		for i, c := range list {
			if got := impl.RunCommands(u, path, list[:i+1], fuel); c.Kind == impl.CoImport && got.Ends[i] == impl.EnDone && inCache(got, c.Name) < 0 || c.Kind == impl.CoImport && got.Ends[i] != impl.EnDone && !strings.Contains(c.Name, ".") && inCache(got, c.Name) >= 0 {
				t.Errorf("%v is %s", list[:i+1], resultText(got))
			}
		}
	})
}

func TestP64OtherArgumentsImportNothing(t *testing.T) {
	eachOtherName(func(u impl.Tree, path []int, s string) {
		if end, list := impl.ImportOne(u, path, s); end != -1 || len(list) != 0 {
			t.Errorf("ImportOne of %.20q in %v by %v is %d, %q", s, brief(u), brief(path), end, list)
		}
	})
}

func TestP65WhatIsNotFoundEndsSo(t *testing.T) {
	n := 0
	eachAlone(func(u impl.Tree, path []int, s string, alone impl.Result) {
		first, _, _ := strings.Cut(s, ".")
		if impl.CanFind(u, path, first) {
			return
		}
		n++
		if end, list := impl.ImportOne(u, path, s); end != impl.EnMissing || len(list) != 0 || resultText(alone) != "ends 1 | out | log | left 120" {
			t.Errorf("ImportOne of %q, which is not found, is %d, %q", s, end, list)
		}
	})
	if n < 500 {
		t.Errorf("only %d names are not found", n)
	}
	expectStories(t, []story{
		{[]string{"0 - a:", "0 b *:"}, "import a.b; import b.c; import b.c.d; import c.d", 120, "ends 1 1 1 1 | out | log +a -a +b -b =b | left 120 | a: 1 [] cd | b: 2 [0] cd"},
	})
	if end, list := impl.ImportOne(lookTree(), nil, "d"); end != impl.EnMissing || len(list) != 0 {
		t.Errorf("ImportOne without roots is %d, %q", end, list)
	}
}

// told is what one import alone tells.
type told struct {
	files   []string
	name    string
	end     int
	cached  string
	done    string
	start   string
	attrs   string
	failure string
	partial string
}

// tellings returns imports that are told by hand.
func tellings() []told {
	ring := []string{"0 a *: import a.b; import c", "0 a b: import c; import a", "0 - c: import a; import a.b; import a.b"}
	inner := []string{"0 - a: import b; set x 1", "0 - b: import c; import a", "0 - c: import b; import d; fail", "0 - d: set x 1"}
	kept := []string{"0 a *: import a.b; fail", "0 a b: set x 1"}
	return []told{
		{ring, "a", 0, "a a.b c", "c a.b a", "a a.b c", "b=#1 a=#0 c=#2", "", "a a.b"},
		{ring, "a.b", 0, "a a.b c", "c a.b a", "a a.b c", "c=#2 a=#0", "", "a a.b"},
		{ring, "c", 0, "c a a.b", "a.b a c", "c a a.b", "a=#1", "", "a c"},
		{ring, "b", 1, "", "", "", "", "", ""},
		{inner, "a", 4, "d", "d", "a b c d", "", "c", "b"},
		{inner, "c", 4, "b a d", "a b d", "c b a d", "", "c", "c b"},
		{inner, "d", 0, "d", "d", "d", "x=1", "", ""},
		{kept, "a", 4, "a.b", "a.b", "a a.b", "", "a", "a"},
		{kept, "a.b", 4, "a.b", "a.b", "a a.b", "x=1", "a", "a"},
		{kept, "a.c", 4, "a.b", "a.b", "a a.b", "", "a", "a"},
		{[]string{"0 - a: import a"}, "a", 0, "a", "a", "a", "a=#0", "", "a"},
		{[]string{"0 - a: import b; import b", "0 - b:"}, "a", 0, "a b", "b a", "a b", "b=#1", "", ""},
		{[]string{"0 a.b c: set z 9; set x 1; set z 8"}, "a.b.c", 0, "a a.b a.b.c", "a a.b a.b.c", "a a.b a.b.c", "z=8 x=1", "", ""},
		{[]string{"0 a.b c:"}, "a.b.d", 1, "a a.b", "a a.b", "a a.b", "", "", ""},
		{[]string{"0 - a: from 1 - b"}, "a", 5, "", "", "a", "", "a", ""},
	}
}

func TestP66BodiesEndInsideOut(t *testing.T) {
	eachAlone(func(u impl.Tree, path []int, s string, alone impl.Result) {
		done := impl.DoneOrder(u, path, s)
		if !slices.Equal(done, eventsOf(alone.Log, impl.EvDone)) {
			t.Errorf("DoneOrder of %q is %q, and not that of %s", s, done, resultText(alone))
		}
		for _, name := range done {
			if !slices.Contains(eventsOf(alone.Log, impl.EvStart), name) {
				t.Errorf("%q ends without a beginning in %s", name, resultText(alone))
			}
		}
		if alone.Ends[0] == impl.EnDone && !slices.Contains(done, s) {
			t.Errorf("%q is done, and not among %q", s, done)
		}
	})
	for i, c := range tellings() {
		if done := impl.DoneOrder(treeOf(c.files...), []int{0, 1}, c.name); strings.Join(done, " ") != c.done {
			t.Errorf("%d: DoneOrder is %q, and not %s", i, done, c.done)
		}
		if end, list := impl.ImportOne(treeOf(c.files...), []int{0, 1}, c.name); end != c.end || strings.Join(list, " ") != c.cached {
			t.Errorf("%d: ImportOne is %d, %q, and not %d, %s", i, end, list, c.end, c.cached)
		}
	}
	eachOtherName(func(u impl.Tree, path []int, s string) {
		if done := impl.DoneOrder(u, path, s); len(done) != 0 {
			t.Errorf("DoneOrder of %.20q in %v by %v is %q", s, brief(u), brief(path), done)
		}
	})
}

func TestP67BodiesBeginOutsideIn(t *testing.T) {
	deeper := 0
	eachAlone(func(u impl.Tree, path []int, s string, alone impl.Result) {
		start := impl.StartOrder(u, path, s)
		if !slices.Equal(start, eventsOf(alone.Log, impl.EvStart)) {
			t.Errorf("StartOrder of %q is %q, and not that of %s", s, start, resultText(alone))
		}
		for i, name := range start {
			above, _, deep := cutLast(name)
			if deep && !slices.Contains(start[:i], above) {
				t.Errorf("%q begins without its parent in %q", name, start)
			}
			if deep {
				deeper++
			}
		}
	})
	if deeper < 1000 {
		t.Errorf("only %d names have a parent", deeper)
	}
	for i, c := range tellings() {
		if start := impl.StartOrder(treeOf(c.files...), []int{0, 1}, c.name); strings.Join(start, " ") != c.start {
			t.Errorf("%d: StartOrder is %q, and not %s", i, start, c.start)
		}
	}
	eachOtherName(func(u impl.Tree, path []int, s string) {
		if start := impl.StartOrder(u, path, s); len(start) != 0 {
			t.Errorf("StartOrder of %.20q in %v by %v is %q", s, brief(u), brief(path), start)
		}
	})
}

func TestP68AttributesHaveDifferentNames(t *testing.T) {
	counts := map[string]int{}
	eachAlone(func(u impl.Tree, path []int, s string, alone impl.Result) {
		attrs := impl.AttrsOf(u, path, s)
		at := inCache(alone, s)
		if at < 0 {
			if counts["not there"]++; len(attrs) != 0 {
				t.Errorf("%q is not in the cache, and has %s", s, attrsText(attrs))
			}
			return
		}
		if !slices.Equal(attrs, alone.Modules[at].Attrs) {
			t.Errorf("AttrsOf %q is %s, and not that of %s", s, attrsText(attrs), resultText(alone))
		}
		names := map[string]bool{}
		for _, a := range attrs {
			if counts["kind "+strconv.Itoa(a.Value.Kind)]++; names[a.Name] {
				t.Errorf("%q has two attributes %q: %s", s, a.Name, attrsText(attrs))
			}
			names[a.Name] = true
		}
		for _, m := range alone.Modules {
			above, last, deep := cutLast(m.Name)
			if !deep || above != s || !m.Cached {
				continue
			}
			if counts["module in it"]++; !names[last] {
				t.Errorf("%q does not have %q: %s", s, last, attrsText(attrs))
			}
		}
	})
	expectEnough(t, counts, 200, "not there", "kind 0", "kind 1", "module in it")
	for i, c := range tellings() {
		if attrs := impl.AttrsOf(treeOf(c.files...), []int{0, 1}, c.name); attrsText(attrs) != c.attrs {
			t.Errorf("%d: AttrsOf is %s, and not %s", i, attrsText(attrs), c.attrs)
		}
	}
	eachOtherName(func(u impl.Tree, path []int, s string) {
		if attrs := impl.AttrsOf(u, path, s); len(attrs) != 0 {
			t.Errorf("AttrsOf %.20q in %v by %v is %s", s, brief(u), brief(path), attrsText(attrs))
		}
	})
}

// TestP68NamesAreTaken checks what SmFrom takes from a module: an attribute, or a module in it.
func TestP68NamesAreTaken(t *testing.T) {
	expectStories(t, []story{
		{[]string{"0 a *: set b 5", "0 a b:", "0 - q: from 0 a b; print b"}, "import q", 120, "ends 0 | out 5 | log +q +a -a -q | left 117 | q: 1 [] cd b=5 | a: 2 [0] cd b=5"},
		{[]string{"0 a b: set x 2", "0 - q: from 0 a b; print b; from 0 a b"}, "import q", 120,
			"ends 0 | out -1 | log +q +a -a =a +a.b -a.b =a -q | left 116 | q: 1 [] cd b=#2 | a: 3 [0] cd b=#2 | a.b: 1 [] cd x=2"},
		{[]string{"0 a *:", "0 a b: from 1 - b; print b"}, "import a.b", 120, "ends 0 | out -1 | log +a -a +a.b =a =a.b -a.b | left 118 | a: 2 [0] cd b=#1 | a.b: 1 [] cd b=#1"},
		{[]string{"0 - a:", "0 a b:", "0 - q: from 0 a b"}, "import q", 120, "ends 2 | out | log +q +a -a !q | left 119 | q: 1 [] | a: 1 [] cd"},
		{[]string{"0 a.b.c *: set x 1", "0 - q: from 0 a.b.c d"}, "import q", 120,
			"ends 2 | out | log +q +a -a +a.b -a.b +a.b.c -a.b.c !q | left 118 | q: 1 [] | a: 3 [0] cd b=#2 | a.b: 3 [0] cd c=#3 | a.b.c: 2 [0] cd x=1"},
		{[]string{"0 a b: fail", "0 - q: from 0 a b; set x 1"}, "import q", 120, "ends 4 | out | log +q +a -a =a +a.b !a.b !q | left 118 | q: 1 [] | a: 3 [0] cd | a.b: 1 []"},
		{[]string{"0 - q: from 0 a b"}, "import q", 120, "ends 1 | out | log +q !q | left 119 | q: 1 []"},
		{[]string{"0 - a: set x 1", "0 - b: from 0 a x; set x 2; print x"}, "import b", 120, "ends 0 | out 2 | log +b +a -a -b | left 116 | b: 1 [] cd x=2 | a: 1 [] cd x=1"},
		{[]string{"0 - a: set z 1", "0 - b: from 0 a z"}, "import b", 120, "ends 0 | out | log +b +a -a -b | left 118 | b: 1 [] cd z=1 | a: 1 [] cd z=1"},
	})
}

// TestP68RelativeNamesAreTaken checks the package from which relative names lead up.
func TestP68RelativeNamesAreTaken(t *testing.T) {
	expectStories(t, []story{
		{[]string{"0 - a: from 1 - x"}, "import a", 120, "ends 5 | out | log +a !a | left 119 | a: 1 []"},
		{[]string{"0 - a: from 1 b x", "0 - b: set x 1"}, "import a", 120, "ends 5 | out | log +a !a | left 119 | a: 1 []"},
		{[]string{"0 a *: from 1 - x"}, "import a", 120, "ends 2 | out | log +a =a !a | left 119 | a: 2 [0]"},
		{[]string{"0 a *: from 2 - x"}, "import a", 120, "ends 5 | out | log +a !a | left 119 | a: 2 [0]"},
		{[]string{"0 a b: from 2 c x"}, "import a.b", 120, "ends 5 | out | log +a -a +a.b !a.b | left 119 | a: 3 [0] cd | a.b: 1 []"},
		{[]string{"0 a.b *: from 1 c.d x"}, "import a.b", 120, "ends 5 | out | log +a -a +a.b !a.b | left 119 | a: 3 [0] cd | a.b: 2 [0]"},
		{[]string{"0 a.b c: from 2 d y", "0 a d: set y 4"}, "import a.b.c", 120,
			"ends 0 | out | log +a -a +a.b -a.b +a.b.c =a +a.d -a.d -a.b.c | left 118 | a: 3 [0] cd b=#1 d=#3 | a.b: 3 [0] cd c=#2 | a.b.c: 1 [] cd y=4 | a.d: 1 [] cd y=4"},
		{[]string{"0 a.b.c *: from 3 - x", "0 a *: set x 6"}, "import a.b.c", 120,
			"ends 0 | out | log +a -a +a.b -a.b +a.b.c =a -a.b.c | left 118 | a: 2 [0] cd x=6 b=#1 | a.b: 3 [0] cd c=#2 | a.b.c: 2 [0] cd x=6"},
	})
}

// TestP68StarsTakeAll checks what SmStar takes from a module.
func TestP68StarsTakeAll(t *testing.T) {
	expectStories(t, []story{
		{[]string{"0 - a: set x 1; set z 2; set zx 3; set y 4; set az 5", "0 - b: set y 9; star a"}, "import b", 120,
			"ends 0 | out | log +b +a -a -b | left 113 | b: 1 [] cd y=4 x=1 az=5 | a: 1 [] cd x=1 z=2 zx=3 y=4 az=5"},
		{[]string{"0 a *: set x 1", "0 a b:", "0 a z:", "0 - q: import a.b; import a.z; star a; print b"}, "import q", 120,
			"ends 0 | out -1 | log +q +a -a +a.b -a.b =a +a.z -a.z =a -q | left 115 | q: 1 [] cd a=#1 x=1 b=#2 | a: 2 [0] cd x=1 b=#2 z=#3 | a.b: 1 [] cd | a.z: 1 [] cd"},
		{[]string{"0 a b:", "0 - q: star a; print b"}, "import q", 120, "ends 3 | out | log +q +a -a !q | left 118 | q: 1 [] | a: 3 [0] cd"},
		{[]string{"0 - a: set x 1; set z 2; star a"}, "import a", 120, "ends 0 | out | log +a =a -a | left 117 | a: 1 [] cd x=1 z=2"},
		{[]string{"0 a b: set x 1", "0 - q: star a.b"}, "import q", 120, "ends 0 | out | log +q +a -a +a.b -a.b -q | left 118 | q: 1 [] cd x=1 | a: 3 [0] cd b=#2 | a.b: 1 [] cd x=1"},
		{[]string{"0 - q: star a; set x 1", "0 - a: set y 1; print q"}, "import q", 120, "ends 3 | out | log +q +a !a !q | left 117 | q: 1 [] | a: 1 [] y=1"},
	})
}

func TestP69FailuresHaveAFirstOne(t *testing.T) {
	counts := map[string]int{}
	eachAlone(func(u impl.Tree, path []int, s string, alone impl.Result) {
		failure := impl.FirstFailure(u, path, s)
		failed := eventsOf(alone.Log, impl.EvFail)
		if (failure == "") != (len(failed) == 0) || failure != "" && (failure != failed[0] || inCache(alone, failure) >= 0 || alone.Ends[0] == impl.EnDone) {
			t.Errorf("FirstFailure of %q is %q in %s", s, failure, resultText(alone))
		}
		if failure == "" {
			counts["none"]++
		} else {
			counts["end "+strconv.Itoa(alone.Ends[0])]++
		}
		if len(failed) > 1 {
			counts["deeper"]++
		}
	})
	expectEnough(t, counts, 100, "none", "end 1", "end 2", "end 3", "end 4", "end 5", "deeper")
	for i, c := range tellings() {
		if failure := impl.FirstFailure(treeOf(c.files...), []int{0, 1}, c.name); failure != c.failure {
			t.Errorf("%d: FirstFailure is %q, and not %q", i, failure, c.failure)
		}
	}
	eachOtherName(func(u impl.Tree, path []int, s string) {
		if failure := impl.FirstFailure(u, path, s); failure != "" {
			t.Errorf("FirstFailure of %.20q in %v by %v is %q", s, brief(u), brief(path), failure)
		}
	})
}

func TestP70RingsSeeParts(t *testing.T) {
	counts := map[string]int{}
	eachAlone(func(u impl.Tree, path []int, s string, alone impl.Result) {
		var want, open []string
		for _, e := range alone.Log {
			switch e.Kind {
			case impl.EvStart:
				open = append(open, e.Name)
			case impl.EvHit:
				if slices.Contains(open, e.Name) && !slices.Contains(want, e.Name) {
					want = append(want, e.Name)
				}
			default:
				open = open[:len(open)-1]
			}
		}
		seen := impl.PartialSeen(u, path, s)
		if counts["seen "+strconv.Itoa(min(2, len(seen)))]++; !slices.Equal(seen, want) {
			t.Errorf("PartialSeen of %q is %q, and not %q in %s", s, seen, want, resultText(alone))
		}
		begun := eventsOf(alone.Log, impl.EvStart)
		for _, name := range seen {
			if !slices.Contains(begun, name) {
				t.Errorf("%q is seen in %s", name, resultText(alone))
			}
		}
		for _, name := range begun {
			if impl.FirstFailure(u, path, s) == "" && count(begun, name) != 1 {
				t.Errorf("%q is begun twice in %s", name, resultText(alone))
			}
		}
	})
	expectEnough(t, counts, 200, "seen 0", "seen 1", "seen 2")
	for i, c := range tellings() {
		if seen := impl.PartialSeen(treeOf(c.files...), []int{0, 1}, c.name); strings.Join(seen, " ") != c.partial {
			t.Errorf("%d: PartialSeen is %q, and not %s", i, seen, c.partial)
		}
	}
	eachOtherName(func(u impl.Tree, path []int, s string) {
		if seen := impl.PartialSeen(u, path, s); len(seen) != 0 {
			t.Errorf("PartialSeen of %.20q in %v by %v is %q", s, brief(u), brief(path), seen)
		}
	})
}

// spoilModule changes all that a module has, and what lies behind it in its memory.
func spoilModule(m *impl.Module) {
	for i := range m.Attrs[:cap(m.Attrs)] {
		m.Attrs[:cap(m.Attrs)][i] = impl.Attr{Name: "spoilt"}
	}
	for i := range m.Roots[:cap(m.Roots)] {
		m.Roots[:cap(m.Roots)][i] = -1
	}
}

// TestRunResultsAreFresh checks that results share no memory with arguments, with each other, or from call to call.
func TestRunResultsAreFresh(t *testing.T) {
	u := treeOf("0 d f: set x 1; star d.e", "1 d g: import d.f; star d.e", "1 d.e h:", "0 d.e *: set y 1; import d.f", "1 e f:", "0 e g: set x 1")
	list := append(make([]impl.Command, 0, 16), commandsOf("import d.g; import e.f; import e.g; reload d.g; import d.e.h")...)
	path := append(make([]int, 0, 16), 0, 1)
	wantTree, wantList := copyOfTree(u), slices.Clone(list)
	want := resultText(impl.RunCommands(u, path, list, 120))
	for i := range impl.RunCommands(u, path, list, 120).Modules {
		r := impl.RunCommands(u, path, list, 120)
		if resultText(r) != want {
			t.Fatalf("the run after %d spoilt ones is %s", i, resultText(r))
		}
		var others []string
		for j, m := range r.Modules {
			if j != i {
				others = append(others, moduleText(m))
			}
		}
		spoilModule(&r.Modules[i])
		for j, m := range r.Modules {
			if j != i && !slices.Contains(others, moduleText(m)) {
				t.Errorf("the modules %d and %d share memory", i, j)
			}
		}
		for j := range r.Log[:cap(r.Log)] {
			r.Log[:cap(r.Log)][j] = impl.Event{Name: "spoilt"}
		}
		for j := range r.Ends[:cap(r.Ends)] {
			r.Ends[:cap(r.Ends)][j] = -1
		}
		if !sameTree(u, wantTree) || !slices.Equal(list, wantList) || list[:6][5] != (impl.Command{}) || !slices.Equal(path[:4], []int{0, 1, 0, 0}) {
			t.Fatalf("the run shares memory with its arguments, or changes them")
		}
	}
	attrs := impl.AttrsOf(u, path, "d.g")
	wantAttrs := attrsText(attrs)
	for i := range attrs {
		attrs[i] = impl.Attr{Name: "spoilt"}
	}
	if again := attrsText(impl.AttrsOf(u, path, "d.g")); again != wantAttrs || again == "" {
		t.Errorf("AttrsOf is %s, and then %s", wantAttrs, again)
	}
}

func TestRunLimits(t *testing.T) {
	for i, c := range [][2]int{
		{impl.MaxFuel, 120}, {impl.MaxCommands, 10}, {impl.PrivateLetter, 'z'}, {impl.VaNum, 0}, {impl.VaModule, 1}, {impl.ShModule, -1},
		{impl.EnDone, 0}, {impl.EnMissing, 1}, {impl.EnAttr, 2}, {impl.EnName, 3}, {impl.EnFail, 4}, {impl.EnRelative, 5}, {impl.EnFuel, 6},
		{impl.EvStart, 0}, {impl.EvDone, 1}, {impl.EvFail, 2}, {impl.EvHit, 3}, {impl.CoImport, 0}, {impl.CoReload, 1}, {impl.CoForget, 2},
	} {
		if c[0] != c[1] {
			t.Errorf("the constant %d is %d, and not %d", i, c[0], c[1])
		}
	}
	// The largest tree, with the longest bodies, does not need all fuel, but a few reloads more do.
	var texts []string
	for i := range 12 {
		texts = append(texts, "0 - "+string(rune('a'+i))+": import "+string(rune('a'+(i+1)%12))+strings.Repeat("; set x 1", 7))
	}
	u := treeOf(texts...)
	if r := impl.RunCommands(u, []int{0}, commandsOf("import a; reload a; reload b; reload c; reload d; import a"), 120); !slices.Equal(r.Ends, []int{0, 0, 0, 0, 6, 0}) || r.Left != 0 || len(r.Modules) != 12 {
		t.Errorf("the largest tree is %s", resultText(r))
	}
}

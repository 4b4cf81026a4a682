package tests

import (
	"fmt"
	"math"
	"math/rand"
	"regexp"
	"slices"
	"strconv"
	"strings"
	"testing"

	"loop.example/importhouse/impl"
)

// actWords has the words by which acts are told here, by kind.
var actWords = []string{"add", "remove", "edit", "import"}

// otherTicks has numbers that are no ticks of a change.
var otherTicks = []int{-1, -2, 5, 6, 100, math.MaxInt, math.MinInt}

// actOf returns the act that a text tells, as "add 0 - a: set x 1; fail", "remove 2", "edit 0: set x 2" or "import a.b".
func actOf(text string) impl.Act {
	word, rest, _ := strings.Cut(text, " ")
	a := impl.Act{Kind: slices.Index(actWords, word)}
	switch a.Kind {
	case impl.AcAdd:
		a.File = treeOf(rest).Files[0]
	case impl.AcRemove:
		a.Index = number(rest)
	case impl.AcEdit:
		index, body, _ := strings.Cut(rest, ":")
		a.Index = number(index)
		a.File.Body = treeOf("0 - a:" + body).Files[0].Body
	case impl.AcImport:
		a.Name = rest
	}
	return a
}

// actsOf returns the session that texts tell.
func actsOf(texts ...string) []impl.Act {
	var list []impl.Act
	for _, text := range texts {
		list = append(list, actOf(text))
	}
	return list
}

// copyOfActs returns a session that shares no memory with another one.
func copyOfActs(list []impl.Act) []impl.Act {
	copies := slices.Clone(list)
	for i := range copies {
		copies[i].File.Body = slices.Clone(copies[i].File.Body)
	}
	return copies
}

func sameAct(a impl.Act, b impl.Act) bool {
	return a.Kind == b.Kind && sameFile(a.File, b.File) && a.Index == b.Index && a.Name == b.Name
}

// answersText returns the answers to a session, as "1 | 0 5 | 1".
func answersText(answers [][]int) string {
	var texts []string
	for _, answer := range answers {
		texts = append(texts, numbersText(answer))
	}
	return strings.Join(texts, " | ")
}

// fresh is the mode of a play that keeps nothing.
const fresh = -1

// play is a model of sessions: a disk, and what is kept, with what is changed done to copies of the tree.
type play struct {
	path   []int
	ticks  int
	mode   int
	disk   impl.Disk
	finder impl.Finder
	store  []impl.Compiled
}

// changed returns the disk after a change, and whether that is possible.
func (p *play) changed(a impl.Act) (impl.Disk, bool) {
	u, now := copyOfTree(p.disk.Tree), p.disk.Clock+p.ticks
	if a.Kind == impl.AcAdd {
		f := a.File
		f.Stamp = now
		if len(u.Files) == 12 || slices.ContainsFunc(u.Files, func(g impl.File) bool { return samePlace(f, g) }) {
			return impl.Disk{}, false
		}
		u.Files = append(u.Files, f)
		return stamped(p.disk, u, f.Root, f.Package, p.ticks)
	}
	if a.Index < 0 || a.Index >= len(u.Files) {
		return impl.Disk{}, false
	}
	f := u.Files[a.Index]
	if a.Kind == impl.AcRemove {
		u.Files = slices.Delete(u.Files, a.Index, a.Index+1)
		return stamped(p.disk, u, f.Root, f.Package, p.ticks)
	}
	u.Files[a.Index].Stamp = now
	u.Files[a.Index].Body = a.File.Body
	return impl.Disk{Tree: u, Clock: now, Dirs: p.disk.Dirs}, true
}

// look is what the finder finds of a name in an import.
func (p *play) look(m *machine, s string) impl.Spec {
	roots := p.path
	if above, _, deep := cutLast(s); deep {
		roots = m.modules[m.cache[above]].Roots
	}
	var spec impl.Spec
	p.finder, spec = lookedCachedOver(p.finder, p.disk, roots, s)
	return spec
}

// load is the body that the store has of a file.
func (p *play) load(f impl.File) []impl.Stmt {
	body, store, _ := loadedBy(p.store, f, p.mode)
	p.store = store
	return body
}

// act does an act, and returns its answer.
func (p *play) act(a impl.Act) []int {
	if a.Kind != impl.AcImport {
		d, ok := p.changed(a)
		if !ok {
			return []int{0}
		}
		p.disk = d
		return []int{1}
	}
	m := machine{tree: p.disk.Tree, path: p.path, left: 120, cache: map[string]int{}}
	if p.mode != fresh {
		m.look, m.load = p.look, p.load
	}
	end := endOf(func() { m.use(a.Name) })
	return append([]int{end}, m.out...)
}

// played returns the answers to a session, and the play after it.
func played(list []impl.Act, path []int, ticks int, mode int) ([][]int, play) {
	p := play{path: path, ticks: ticks, mode: mode}
	var answers [][]int
	for _, a := range list {
		answers = append(answers, p.act(a))
	}
	return answers, p
}

// showing returns a tree of which the bodies print what they set, as far as there is room.
func showing(u impl.Tree) impl.Tree {
	for i := range u.Files {
		f := &u.Files[i]
		at := slices.IndexFunc(f.Body, func(s impl.Stmt) bool { return s.Kind == impl.SmSet })
		if at >= 0 && len(f.Body) < 8 {
			f.Body = append(f.Body, impl.Stmt{Kind: impl.SmPrint, Name: f.Body[at].Name})
		}
	}
	return u
}

// editedQuietly returns a body of the same size, of which some values are other ones.
func editedQuietly(body []impl.Stmt, r *rand.Rand) []impl.Stmt {
	body = slices.Clone(body)
	for i := range body {
		if body[i].Kind == impl.SmSet {
			body[i].Value = r.Intn(100)
		}
	}
	return body
}

// nextAct returns an act of one of some kinds, mostly one that is possible for a play.
func nextAct(r *rand.Rand, p play, pool []impl.File, kind int) impl.Act {
	a := impl.Act{Kind: kind}
	files := p.disk.Tree.Files
	switch kind {
	case impl.AcAdd:
		a.File = pool[r.Intn(len(pool))]
	case impl.AcRemove:
		a.Index = r.Intn(len(files)+2) - 1
	case impl.AcEdit:
		a.Index = r.Intn(len(files)+2) - 1
		a.File.Body = pool[r.Intn(len(pool))].Body
		if a.Index >= 0 && a.Index < len(files) && r.Intn(3) > 0 {
			a.File.Body = editedQuietly(files[a.Index].Body, r)
		}
	case impl.AcImport:
		a.Name = nameAt(pool[r.Intn(len(pool))])
		if r.Intn(10) == 0 {
			a.Name = pick(r, runNames...)
		}
	}
	return a
}

// randomActs returns a session with acts of some kinds. Most begin with files that are added, and some go on with one name.
func randomActs(r *rand.Rand, kinds ...int) []impl.Act {
	pool := showing(runTree(r)).Files
	if more := showing(runTree(r)).Files; r.Intn(2) == 0 {
		pool = append(pool, more...)
	}
	p := play{ticks: 1, mode: fresh}
	var list []impl.Act
	favourite := nameAt(pool[r.Intn(len(pool))])
	for range r.Intn(21) {
		kind := kinds[r.Intn(len(kinds))]
		if len(list) < 6 && slices.Contains(kinds, impl.AcAdd) && r.Intn(3) > 0 {
			kind = impl.AcAdd
		}
		a := nextAct(r, p, pool, kind)
		if kind == impl.AcAdd && r.Intn(8) > 0 {
			a.File = pool[len(list)%len(pool)]
		}
		if kind == impl.AcImport && r.Intn(2) == 0 {
			a.Name = favourite
		}
		list = append(list, a)
		p.act(a)
	}
	return list
}

// changingKinds has the kinds of acts of a session, the import as often as all others.
var changingKinds = []int{impl.AcAdd, impl.AcRemove, impl.AcEdit, impl.AcEdit, impl.AcImport, impl.AcImport, impl.AcImport, impl.AcImport}

// eachSession calls a function with many sessions with acts of some kinds, and paths.
func eachSession(sessions int, kinds []int, f func(list []impl.Act, path []int)) {
	r := rand.New(rand.NewSource(800))
	for range sessions {
		list := randomActs(r, kinds...)
		f(list, runPath(r))
	}
}

// otherActs returns sessions that are not valid.
func otherActs() [][]impl.Act {
	imports := func(most int) []impl.Act { return slices.Repeat(actsOf("import a"), most) }
	lists := [][]impl.Act{imports(21), imports(1000000), make([]impl.Act, 1), make([]impl.Act, 21), slices.Repeat(actsOf("remove 0"), 21)}
	add := func(a impl.Act) {
		lists = append(lists, [][]impl.Act{{a}, append(imports(19), a), {a, actOf("import a")}, actsOf("add 0 - a:", "import a")}[len(lists)%4])
		if last := &lists[len(lists)-1]; len(lists)%4 == 0 {
			*last = slices.Insert(*last, 1, a)
		}
	}
	for _, kind := range append([]int{4, 5}, otherNumbers...) {
		add(impl.Act{Kind: kind, Name: "a", File: impl.File{Name: "a"}})
	}
	for _, f := range otherFiles() {
		add(impl.Act{Kind: impl.AcAdd, File: f, Name: "a"})
	}
	for _, body := range otherBodies() {
		add(impl.Act{Kind: impl.AcEdit, File: impl.File{Name: "a", Body: body}, Name: "a"})
	}
	for _, s := range oddNames() {
		add(impl.Act{Kind: impl.AcImport, Name: s, File: impl.File{Name: "a"}})
	}
	return lists
}

// oddActs returns valid acts that have, in all that they do not need, what is not valid there.
func oddActs() []impl.Act {
	odd := impl.Act{File: impl.File{Root: -1, Package: "A", Name: "a.b", Init: true, Stamp: 100, Body: make([]impl.Stmt, 9)}, Index: -1, Name: "."}
	var list []impl.Act
	for i, index := range otherNumbers {
		for kind, a := range slices.Repeat([]impl.Act{odd}, 4) {
			a.Kind, a.Index = kind, index
			switch kind {
			case impl.AcAdd:
				a.File = impl.File{Package: "a.b", Name: string(rune('a' + i)), Stamp: 99}
			case impl.AcEdit:
				a.File.Body = someStmts[i : i+3]
			case impl.AcImport:
				a.Name = "abc.abc.zzz"
			}
			list = append(list, a)
		}
	}
	return list
}

// eachOtherPlay calls a function with a session, a path and ticks of which one is not valid.
func eachOtherPlay(f func(list []impl.Act, path []int, ticks int)) {
	list := actsOf("add 0 - a: set x 1; print x", "import a", "remove 0", "edit 0:")
	for i, other := range otherActs() {
		f(other, []int{0, 1}, i%5)
	}
	for i, path := range otherPaths() {
		f(list, path, i%5)
		f(nil, path, i%5)
	}
	for _, ticks := range otherTicks {
		f(list, []int{0}, ticks)
		f(nil, nil, ticks)
	}
}

// expectAnswers fails if the answers to a session are not as they are wanted.
func expectAnswers(t *testing.T, list []impl.Act, path []int, ticks int, mode int, got [][]int, want [][]int) {
	t.Helper()
	if answersText(got) != answersText(want) {
		t.Errorf("%+v by %v with %d ticks in the mode %d is answered by\n%s\nand not by\n%s", list, path, ticks, mode, answersText(got), answersText(want))
	}
}

// expectPlayed fails if the answers to a session are not those of the model, and returns the answers, and the play.
func expectPlayed(t *testing.T, list []impl.Act, path []int, ticks int, mode int) ([][]int, play) {
	t.Helper()
	want, p := played(list, path, ticks, mode)
	var got [][]int
	if mode == fresh {
		got = impl.RunFresh(list, path, ticks)
	} else {
		got = impl.RunWarm(list, path, ticks, mode)
	}
	expectAnswers(t, list, path, ticks, mode, got, want)
	return got, p
}

// scene is a session that is told by hand, with its answers with nothing kept, and in the modes MoStamp, MoHash and MoTrust.
// Where these are "", they are as those with nothing kept. The path is 0 and 1.
type scene struct {
	acts  []string
	ticks int
	fresh string
	stamp string
	hash  string
	trust string
}

// scenes returns the sessions that are told by hand.
func scenes() []scene {
	quiet := []string{"add 0 - a: set x 1; print x", "import a", "edit 0: set x 2; print x", "import a"}
	loud := []string{"add 0 - a: set x 1; print x", "import a", "edit 0: set xy 2; print xy", "import a"}
	alike := []string{"add 0 - a: set aah 0; fail", "import a", "edit 0: set bqa 20; fail", "import a", "edit 0: import doy", "import a", "edit 0: set aa 20; fail", "import a"}
	late := []string{"import a", "add 0 - a:", "import a", "import b", "add 0 - b:", "import b"}
	inner := []string{"add 0 a b:", "import a.c", "add 0 a c: set x 1; print x", "import a.c", "add 1 a d:", "import a.d"}
	gone := []string{"add 0 - a:", "import a", "remove 0", "import a", "add 1 - a: set x 1; print x", "import a"}
	hiding := []string{"add 1 - a: set x 1; print x", "import a", "add 0 - a: set x 2; print x", "import a", "remove 0", "import a"}
	packaged := []string{"add 0 a b: set x 1; print x", "import a.b", "add 0 a *: set x 2; print x; fail", "import a.b", "remove 1", "import a.b"}
	again := []string{"add 0 - a: set x 1; print x", "import a", "remove 0", "add 0 - a: set x 2; print x", "import a"}
	moved := []string{"add 0 - a: set x 1; print x", "import a", "remove 0", "add 1 - a: set x 2; print x", "import a", "remove 0", "add 0 a *: set x 3; print x", "import a"}
	used := []string{"add 0 - a: import b; set x 1; print x", "add 0 - b: set y 2; print y", "import a", "edit 1: set y 3; print y", "import a", "edit 1: fail", "import a", "import b"}
	not := []string{"remove 0", "edit 0:", "add 0 - a: print x", "add 0 - a:", "remove 1", "remove -1", "edit 1: fail", "edit -1:", "add 1 - a: fail", "import a", "import b"}
	ends := []string{"add 0 - a: from 0 b x", "add 0 - b:", "add 0 - c: set x 7; print x; import b; print b; from 1 - x", "import a", "import c", "import d", "edit 0: print b", "import a", "edit 1: fail", "import b"}
	var list []scene
	for ticks := range 5 {
		list = append(list, scene{not, ticks, "0 | 0 | 1 | 0 | 0 | 0 | 0 | 0 | 1 | 3 | 1", "", "", ""})
		list = append(list, scene{again[:2], ticks, "1 | 0 1", "", "", ""}, scene{loud, ticks, "1 | 0 1 | 1 | 0 2", "", "", "1 | 0 1 | 1 | 0 1"})
		list = append(list, scene{nil, ticks, "", "", "", ""}, scene{ends[:6], ticks, "1 | 1 | 1 | 2 | 5 7 -1 | 1", "", "", ""})
	}
	for ticks := 1; ticks < 5; ticks++ {
		list = append(list,
			scene{quiet, ticks, "1 | 0 1 | 1 | 0 2", "", "", "1 | 0 1 | 1 | 0 1"},
			scene{late, ticks, "1 | 1 | 0 | 1 | 1 | 0", "", "", ""},
			scene{inner, ticks, "1 | 1 | 1 | 0 1 | 1 | 0", "", "", ""},
			scene{gone, ticks, "1 | 0 | 1 | 1 | 1 | 0 1", "", "", ""},
			scene{hiding, ticks, "1 | 0 1 | 1 | 0 2 | 1 | 0 2", "", "", ""},
			scene{packaged, ticks, "1 | 0 1 | 1 | 4 2 | 1 | 0 1", "", "", ""},
			scene{again, ticks, "1 | 0 1 | 1 | 1 | 0 2", "", "", "1 | 0 1 | 1 | 1 | 0 1"},
			scene{moved, ticks, "1 | 0 1 | 1 | 1 | 0 2 | 1 | 1 | 0 3", "", "", ""},
			scene{ends[2:], ticks, "1 | 1 | 1 7 | 1 | 1 | 1 | 0 | 1", "", "", ""},
		)
	}
	return append(list,
		scene{quiet, 0, "1 | 0 1 | 1 | 0 2", "1 | 0 1 | 1 | 0 1", "", "1 | 0 1 | 1 | 0 1"},
		scene{alike, 1, "1 | 4 | 1 | 4 | 1 | 1 | 1 | 4", "", "1 | 4 | 1 | 4 | 1 | 1 | 1 | 1", "1 | 4 | 1 | 4 | 1 | 4 | 1 | 4"},
		scene{late, 0, "1 | 1 | 0 | 1 | 1 | 0", "1 | 1 | 1 | 1 | 1 | 1", "1 | 1 | 1 | 1 | 1 | 1", "1 | 1 | 1 | 1 | 1 | 1"},
		scene{inner, 0, "1 | 1 | 1 | 0 1 | 1 | 0", "1 | 1 | 1 | 1 | 1 | 1", "1 | 1 | 1 | 1 | 1 | 1", "1 | 1 | 1 | 1 | 1 | 1"},
		scene{gone, 0, "1 | 0 | 1 | 1 | 1 | 0 1", "1 | 0 | 1 | 1 | 1 | 1", "1 | 0 | 1 | 1 | 1 | 1", "1 | 0 | 1 | 1 | 1 | 1"},
		scene{hiding, 0, "1 | 0 1 | 1 | 0 2 | 1 | 0 2", "1 | 0 1 | 1 | 0 1 | 1 | 1", "1 | 0 1 | 1 | 0 1 | 1 | 1", "1 | 0 1 | 1 | 0 1 | 1 | 1"},
		scene{packaged, 0, "1 | 0 1 | 1 | 4 2 | 1 | 0 1", "", "", ""},
		scene{again, 0, "1 | 0 1 | 1 | 1 | 0 2", "1 | 0 1 | 1 | 1 | 0 1", "", "1 | 0 1 | 1 | 1 | 0 1"},
		scene{used, 1, "1 | 1 | 0 2 1 | 1 | 0 3 1 | 1 | 4 | 4", "", "", "1 | 1 | 0 2 1 | 1 | 0 2 1 | 1 | 0 2 1 | 0 2"},
		scene{used, 0, "1 | 1 | 0 2 1 | 1 | 0 3 1 | 1 | 4 | 4", "1 | 1 | 0 2 1 | 1 | 0 2 1 | 1 | 4 | 4", "", "1 | 1 | 0 2 1 | 1 | 0 2 1 | 1 | 0 2 1 | 0 2"},
	)
}

// expectScenes fails if the scenes are not answered as they are told, with nothing kept, or in a mode.
func expectScenes(t *testing.T, mode int) {
	t.Helper()
	for i, c := range scenes() {
		list := actsOf(c.acts...)
		if !impl.ValidActs(list) {
			t.Fatalf("the scene %d is not valid", i)
		}
		want, got := c.fresh, impl.RunFresh(list, []int{0, 1}, c.ticks)
		if mode != fresh {
			got = impl.RunWarm(list, []int{0, 1}, c.ticks, mode)
			if other := []string{c.stamp, c.hash, c.trust}[mode]; other != "" {
				want = other
			}
		}
		if answersText(got) != want {
			t.Errorf("the scene %d, %q with %d ticks in the mode %d, is\n%s\nand not\n%s", i, c.acts, c.ticks, mode, answersText(got), want)
		}
	}
}

func TestP82ActsCanBeLeftOut(t *testing.T) {
	lists := [][]impl.Act{nil, {}, slices.Repeat(actsOf("import abc.abc.zzz"), 20), slices.Repeat(actsOf("remove 0"), 20), oddActs()[:20], oddActs()[8:]}
	for _, u := range someTrees() {
		var list []impl.Act
		for i, f := range u.Files {
			list = append(list, impl.Act{Kind: []int{impl.AcAdd, impl.AcEdit}[i%2], File: f, Index: i})
		}
		lists = append(lists, list)
	}
	for _, body := range someBodies() {
		lists = append(lists, []impl.Act{{Kind: impl.AcAdd, File: impl.File{Name: "a", Body: body}}, {Kind: impl.AcEdit, File: impl.File{Body: body}}})
	}
	eachSession(200, changingKinds, func(list []impl.Act, _ []int) { lists = append(lists, list) })
	for _, list := range lists {
		if !impl.ValidActs(list) {
			t.Fatalf("%+v is valid", list)
		}
		for i := range list {
			if !impl.ValidActs(slices.Delete(slices.Clone(list), i, i+1)) {
				t.Errorf("%+v is not valid without the act %d", list, i)
			}
		}
	}
	for _, list := range otherActs() {
		if impl.ValidActs(list) {
			t.Errorf("%s is not valid", brief(list))
		}
	}
}

func TestP83SessionsLeaveADisk(t *testing.T) {
	counts := map[string]int{}
	eachSession(400, changingKinds, func(list []impl.Act, path []int) {
		for ticks := range 5 {
			d := impl.DiskAfter(list, ticks)
			if _, p := played(list, nil, ticks, fresh); !sameDisk(d, p.disk) {
				t.Errorf("DiskAfter %+v with %d ticks is %v, and not %v", list, ticks, d, p.disk)
			}
			possible := 0
			for i, answer := range impl.RunFresh(list, path, ticks) {
				if list[i].Kind != impl.AcImport {
					possible += answer[0]
					counts[actWords[list[i].Kind]+" "+numbersText(answer)]++
				}
			}
			if !impl.ValidDisk(d) || d.Clock != ticks*possible {
				t.Errorf("DiskAfter %+v with %d ticks for %d changes is %v", list, ticks, possible, d)
			}
		}
	})
	expectEnough(t, counts, 300, "add 0", "add 1", "remove 0", "remove 1", "edit 0", "edit 1")
}

func TestP83DisksAreTold(t *testing.T) {
	list := actsOf("add 0 a.b c: set x 1", "import a", "add 1 - a:", "edit 0: set x 2; fail", "add 0 - d: fail", "edit 3:", "remove 1", "remove 2", "add 0 a *:")
	list[0].File.Stamp, list[2].File.Stamp, list[3].File.Stamp = 99, 7, -1
	for ticks := range 5 {
		want := impl.Disk{Tree: treeOf("0 a.b c: set x 2; fail", "0 - d: fail", "0 a *:"), Clock: 6 * ticks, Dirs: []impl.Dir{
			{Root: 0, Package: "", Stamp: 6 * ticks}, {Root: 0, Package: "a", Stamp: 6 * ticks}, {Root: 0, Package: "a.b", Stamp: ticks}, {Root: 1, Package: "", Stamp: 5 * ticks},
		}}
		for i, changes := range []int{3, 4, 6} {
			want.Tree.Files[i].Stamp = changes * ticks
		}
		if d := impl.DiskAfter(list, ticks); !sameDisk(d, want) {
			t.Errorf("DiskAfter with %d ticks is %+v, and not %+v", ticks, d, want)
		}
		if d := impl.DiskAfter(nil, ticks); !isZeroDisk(d) {
			t.Errorf("DiskAfter nothing is %+v", d)
		}
		if d := impl.DiskAfter(oddActs()[:20], ticks); !impl.ValidDisk(d) || d.Clock != 5*ticks || len(d.Tree.Files) != 5 {
			t.Errorf("DiskAfter with what is not looked at is %+v", d)
		}
	}
}

// TestP83DisksAreFull checks changes that are not possible as there are too many files, or too many directories.
func TestP83DisksAreFull(t *testing.T) {
	var files, dirs []impl.Act
	for i := range 18 {
		files = append(files, actOf("add "+strconv.Itoa(i%3)+" - "+string(rune('a'+i))+":"))
		dirs = append(dirs, actOf("add 0 "+string(rune('a'+i))+".a.b *:"))
	}
	dirs = append(dirs[:7:7], actsOf("add 0 g *:", "add 0 - g:", "add 1 - a:", "add 1 b *:", "edit 6: fail", "remove 0", "add 0 x *:", "add 0 a.a *:")...)
	for ticks := range 5 {
		if d := impl.DiskAfter(files, ticks); len(d.Tree.Files) != 12 || d.Clock != 12*ticks || answersText(impl.RunFresh(files, nil, ticks)) != strings.Repeat("1 | ", 12)+"0 | 0 | 0 | 0 | 0 | 0" {
			t.Errorf("the disk with the most files is %+v", d)
		}
		// One file in a package of three parts, 6 times, has "" and 18 directories more. Then there is room for one more.
		answers := "1 | 1 | 1 | 1 | 1 | 1 | 0 | 1 | 1 | 0 | 0 | 1 | 1 | 0 | 1"
		if d := impl.DiskAfter(dirs, ticks); len(d.Dirs) != 20 || d.Clock != 11*ticks || answersText(impl.RunFresh(dirs, nil, ticks)) != answers {
			t.Errorf("the disk with the most directories is %+v, answered by %s", d, answersText(impl.RunFresh(dirs, nil, ticks)))
		}
	}
}

func TestP83OtherSessionsLeaveNothing(t *testing.T) {
	eachOtherPlay(func(list []impl.Act, path []int, ticks int) {
		if impl.ValidPath(path) {
			if d := impl.DiskAfter(list, ticks); !isZeroDisk(d) {
				t.Errorf("DiskAfter %s with %d ticks is %s", brief(list), ticks, brief(d))
			}
		}
	})
}

func TestP84AnswersAreOfTheTreeAsItIs(t *testing.T) {
	counts := map[string]int{}
	eachSession(400, changingKinds, func(list []impl.Act, path []int) {
		answers, _ := expectPlayed(t, list, path, len(list)%5, fresh)
		for i, a := range list {
			first := impl.RunFresh(list[:i], path, len(list)%5)
			expectAnswers(t, list[:i], path, len(list)%5, fresh, first, answers[:i])
			if a.Kind != impl.AcImport {
				continue
			}
			r := impl.RunCommands(impl.DiskAfter(list[:i], len(list)%5).Tree, path, importing(a.Name), 120)
			if !slices.Equal(answers[i], append(slices.Clone(r.Ends), r.Out...)) {
				t.Errorf("the act %d of %+v by %v is answered by %v, and not as %s", i, list, path, answers[i], resultText(r))
			}
			counts["end "+strconv.Itoa(answers[i][0])]++
			counts["out "+strconv.Itoa(min(2, len(r.Out)))]++
		}
	})
	expectEnough(t, counts, 30, "end 0", "end 1", "end 2", "end 3", "end 4", "end 5", "out 0", "out 1", "out 2")
	expectScenes(t, fresh)
}

func TestP84TicksAreNotSeen(t *testing.T) {
	eachSession(200, changingKinds, func(list []impl.Act, path []int) {
		answers := impl.RunFresh(list, path, 0)
		for ticks := 1; ticks < 5; ticks++ {
			expectAnswers(t, list, path, ticks, fresh, impl.RunFresh(list, path, ticks), answers)
		}
	})
	list := actsOf("add 1 - a: set x 1; print x", "add 0 - a: set x 2; print x", "import a")
	for path, want := range map[string][]int{"": {1}, "0": {0, 2}, "1": {0, 1}, "2": {1}, "01": {0, 2}, "10": {0, 1}, "210": {0, 1}} {
		var roots []int
		for _, root := range path {
			roots = append(roots, int(root-'0'))
		}
		if got := impl.RunFresh(list, roots, 1); !slices.Equal(got[2], want) {
			t.Errorf("by %v the import is answered by %v", roots, got)
		}
		if got := impl.RunWarm(list, roots, 1, impl.MoHash); !slices.Equal(got[2], want) {
			t.Errorf("by %v the import is answered by %v, if something is kept", roots, got)
		}
	}
}

func TestP84OtherSessionsHaveNoAnswers(t *testing.T) {
	eachOtherPlay(func(list []impl.Act, path []int, ticks int) {
		if answers := impl.RunFresh(list, path, ticks); len(answers) != 0 {
			t.Errorf("RunFresh of %s by %v with %d ticks is %v", brief(list), brief(path), ticks, answers)
		}
	})
}

// expectUnseen fails if what is kept is seen in one of some modes. With one tick or more each change takes it.
func expectUnseen(t *testing.T, list []impl.Act, path []int, modes ...int) {
	t.Helper()
	for ticks := 1; ticks < 5; ticks++ {
		answers := impl.RunFresh(list, path, ticks)
		for _, mode := range modes {
			expectAnswers(t, list, path, ticks, mode, impl.RunWarm(list, path, ticks, mode), answers)
		}
	}
}

func TestP85CachesAreNotSeenIfClocksTick(t *testing.T) {
	eachSession(400, changingKinds, func(list []impl.Act, path []int) { expectUnseen(t, list, path, impl.MoStamp) })
	expectScenes(t, impl.MoStamp)
}

// TestP85CachesAreSeenWithoutTicks checks what is answered if caches are seen: without ticks, or with other modes.
func TestP85CachesAreSeenWithoutTicks(t *testing.T) {
	counts := map[string]int{}
	eachSession(500, changingKinds, func(list []impl.Act, path []int) {
		for ticks := range 2 {
			answers := impl.RunFresh(list, path, ticks)
			for mode := range 3 {
				got, _ := expectPlayed(t, list, path, ticks, mode)
				if answersText(got) != answersText(answers) {
					counts[strconv.Itoa(ticks)+" "+strconv.Itoa(mode)]++
				}
				for i := range list {
					expectAnswers(t, list[:i], path, ticks, mode, impl.RunWarm(list[:i], path, ticks, mode), got[:i])
				}
			}
		}
	})
	expectEnough(t, counts, 20, "0 0", "0 1", "0 2", "1 2")
	if counts["1 0"] != 0 {
		t.Errorf("caches are seen: %v", counts)
	}
}

func TestP85OtherSessionsHaveNoAnswers(t *testing.T) {
	eachOtherPlay(func(list []impl.Act, path []int, ticks int) {
		for mode := range 3 {
			if answers := impl.RunWarm(list, path, ticks, mode); len(answers) != 0 {
				t.Errorf("RunWarm of %s by %v with %d ticks is %v", brief(list), brief(path), ticks, answers)
			}
		}
	})
	for _, mode := range otherModes {
		for _, list := range [][]impl.Act{nil, actsOf("remove 0"), actsOf("add 0 - a:", "import a", "import b")} {
			if answers := impl.RunWarm(list, []int{0}, 1, mode); len(answers) != 0 {
				t.Errorf("RunWarm in the mode %d is %v", mode, answers)
			}
		}
	}
}

// hashesTell reports whether no two bodies of a session that are not equal have one hash.
func hashesTell(list []impl.Act) bool {
	for i, a := range list {
		for _, b := range list[:i] {
			if hashed(a.File.Body) == hashed(b.File.Body) && !slices.Equal(a.File.Body, b.File.Body) {
				return false
			}
		}
	}
	return true
}

func TestP86HashesDoAsWell(t *testing.T) {
	told := 0
	eachSession(400, changingKinds, func(list []impl.Act, path []int) {
		if hashesTell(list) {
			told++
			expectUnseen(t, list, path, impl.MoHash)
		}
	})
	if told < 300 {
		t.Errorf("only %d sessions have hashes that tell bodies", told)
	}
	expectScenes(t, impl.MoHash)
}

func TestP87WithoutEditsAndRemovalsAllModesDo(t *testing.T) {
	counts := map[string]int{}
	eachSession(300, []int{impl.AcAdd, impl.AcImport, impl.AcImport}, func(list []impl.Act, path []int) {
		expectUnseen(t, list, path, impl.MoStamp, impl.MoHash, impl.MoTrust)
		for i, answer := range impl.RunFresh(list, path, 1) {
			counts[actWords[list[i].Kind]+" "+strconv.Itoa(answer[0])]++
		}
	})
	expectEnough(t, counts, 30, "add 0", "add 1", "import 0", "import 1", "import 4")
	expectScenes(t, impl.MoTrust)
}

// expectFills fails if the fills and hits of a session are not those of the model, and returns them, and the finder.
func expectFills(t *testing.T, list []impl.Act, path []int, ticks int) (int, int, impl.Finder) {
	t.Helper()
	fills, hits := impl.FillsOf(list, path, ticks)
	_, p := played(list, path, ticks, impl.MoStamp)
	if fills != p.finder.Fills || hits != p.finder.Hits {
		t.Errorf("FillsOf %+v by %v with %d ticks is %d, %d, and not %d, %d", list, path, ticks, fills, hits, p.finder.Fills, p.finder.Hits)
	}
	return fills, hits, p.finder
}

func TestP88DirectoriesAreReadOrKnown(t *testing.T) {
	counts := map[string]int{}
	eachSession(400, changingKinds, func(list []impl.Act, path []int) {
		ticks := len(list) % 5
		fills, hits, finder := expectFills(t, list, path, ticks)
		quiet := slices.DeleteFunc(slices.Clone(list), func(a impl.Act) bool { return a.Kind == impl.AcImport })
		if fills, hits := impl.FillsOf(quiet, path, ticks); fills != 0 || hits != 0 {
			t.Errorf("FillsOf %+v is %d, %d", quiet, fills, hits)
		}
		if len(list) == 0 || len(list) == 20 || list[len(list)-1].Kind != impl.AcImport {
			return
		}
		more, moreHits, _ := expectFills(t, append(slices.Clone(list), list[len(list)-1]), path, ticks)
		if len(finder.Dirs) < 20 && (more != fills || moreHits <= hits) {
			t.Errorf("FillsOf %+v by %v is %d, %d, and once more %d, %d", list, path, fills, hits, more, moreHits)
		}
		counts["fills "+strconv.Itoa(min(3, fills))]++
		counts["hits "+strconv.Itoa(min(3, hits))]++
	})
	expectEnough(t, counts, 5, "fills 1", "fills 2", "fills 3", "hits 0", "hits 1", "hits 2", "hits 3")
}

func TestP88FillsAreTold(t *testing.T) {
	for i, c := range []struct {
		acts  []string
		ticks int
		fills int
		hits  int
	}{
		{nil, 1, 0, 0},
		{[]string{"add 0 - a:", "remove 0", "edit 0:"}, 1, 0, 0},
		{[]string{"import a"}, 0, 2, 0},
		{[]string{"import a", "import a", "import b.c"}, 3, 2, 4},
		{[]string{"add 0 - a:", "import a"}, 1, 1, 0},
		{[]string{"add 1 - a:", "import a"}, 1, 2, 0},
		{[]string{"add 0 - a:", "import a", "import a", "import a.b"}, 1, 1, 2},
		{[]string{"add 0 - a:", "import a", "add 0 - b:", "import a"}, 1, 2, 0},
		{[]string{"add 0 - a:", "import a", "add 0 - b:", "import a"}, 0, 1, 1},
		{[]string{"add 0 - a:", "import a", "add 1 - b:", "import a"}, 1, 1, 1},
		{[]string{"add 0 - a:", "import a", "edit 0: set x 1", "import a"}, 1, 1, 1},
		{[]string{"add 0 - a:", "import a", "remove 0", "import a"}, 1, 3, 0},
		{[]string{"add 0 - a:", "import a", "add 0 - a:", "import a"}, 1, 1, 1},
		{[]string{"add 0 a *:", "import a.b"}, 1, 2, 0},
		{[]string{"add 0 a b:", "import a.b"}, 1, 3, 0},
		{[]string{"add 0 a b:", "add 1 a c:", "import a.b", "import a.c"}, 1, 4, 3},
		{[]string{"add 0 a *:", "import a.b", "add 0 a.c d:", "import a.c.d"}, 1, 5, 0},
		// What is taken from a package, and is a module in it, is looked for twice.
		{[]string{"add 0 a *:", "add 0 a b:", "add 0 - q: from 0 a b", "import q"}, 1, 2, 2},
		{[]string{"add 0 a *: import a.b", "add 0 a b:", "add 0 - q: from 0 a b", "import q"}, 1, 2, 1},
		{[]string{"add 0 a *:", "add 0 - q: from 0 a b", "import q"}, 1, 2, 1},
		// What a body names is looked for only if the body is run, and that is the one that is kept.
		{[]string{"add 0 - a: import c", "import a", "edit 0: set x 1", "import a"}, 0, 2, 4},
		{[]string{"add 0 - a: import c", "import a", "edit 0: set x 1", "import a"}, 1, 2, 2},
		{[]string{"add 0 - a: import c", "import a", "edit 0: set xy 1", "import a"}, 0, 2, 2},
		{[]string{"add 0 - a: set aah 0", "import a", "edit 0: set bqa 20; import c", "import a"}, 0, 2, 2},
		{[]string{"add 0 - a: set aa 20; fail", "import a", "edit 0: import doy", "import a"}, 1, 2, 2},
		{[]string{"add 0 - a: import a.b", "add 0 - b:", "import b", "import b", "import a"}, 1, 1, 2},
	} {
		if fills, hits, _ := expectFills(t, actsOf(c.acts...), []int{0, 1}, c.ticks); fills != c.fills || hits != c.hits {
			t.Errorf("%d: FillsOf %q with %d ticks is %d, %d, and not %d, %d", i, c.acts, c.ticks, fills, hits, c.fills, c.hits)
		}
	}
	eachOtherPlay(func(list []impl.Act, path []int, ticks int) {
		if fills, hits := impl.FillsOf(list, path, ticks); fills != -1 || hits != -1 {
			t.Errorf("FillsOf %s by %v with %d ticks is %d, %d", brief(list), brief(path), ticks, fills, hits)
		}
	})
}

// TestP88FindersAreFull checks sessions in which more directories are asked than a finder can know: 20 of the root 0, which
// are all that a disk can have, and two more without anything.
func TestP88FindersAreFull(t *testing.T) {
	list := actsOf("add 0 s t:")
	for i := range 9 {
		next := ": import s.t"
		if i > 0 {
			next = ": import " + string(rune('a'+i-1)) + ".b.c"
		}
		list = append(list, actOf("add 0 "+string(rune('a'+i))+".b c"+next))
	}
	list = append(list, actsOf("import j.k", "import i.b.c", "import i.b.c", "import s.t", "import i.b.c")...)
	if answers := impl.RunWarm(list, []int{1, 0, 2}, 1, impl.MoStamp); answersText(answers[10:]) != "1 | 0 | 0 | 0 | 0" {
		t.Errorf("the longest chain is answered by %s", answersText(answers))
	}
	for _, path := range [][]int{{0}, {1, 0}, {0, 1, 2}, {2, 1, 0}} {
		first, _, _ := expectFills(t, list[:12], path, 1)
		fills, _, finder := expectFills(t, list[:13], path, 1)
		if len(finder.Dirs) != 20 || (fills == first) != (len(path) == 1) {
			t.Errorf("by %v there are %d directories with %d fills, and once more %d", path, len(finder.Dirs), first, fills)
		}
		expectFills(t, list, path, 1)
		expectPlayed(t, list, path, 1, impl.MoStamp)
	}
}

// formatted is FormatTree of a valid tree.
func formatted(u impl.Tree) string {
	dashed := func(s string) string {
		if s == "" {
			return "-"
		}
		return s
	}
	text := ""
	for _, f := range u.Files {
		text += fmt.Sprintf("file %d %s %s %d\n", f.Root, dashed(f.Package), map[bool]string{false: f.Name, true: "*"}[f.Init], f.Stamp)
		for _, s := range f.Body {
			text += []string{
				fmt.Sprintf("import %s\n", s.Module), fmt.Sprintf("from %d %s %s\n", s.Level, dashed(s.Module), s.Name), fmt.Sprintf("star %s\n", s.Module),
				fmt.Sprintf("set %s %d\n", s.Name, s.Value), fmt.Sprintf("print %s\n", s.Name), "fail\n",
			}[s.Kind]
		}
	}
	return text
}

// namePart and partPart are what linePatterns have for names and parts.
const namePart, partPart = `[a-z]{1,3}(?:\.[a-z]{1,3}){0,2}`, `[a-z]{1,3}`

// fileLine and stmtLine have the lines that a text may have. What they let pass is not valid in all cases.
var (
	fileLine = regexp.MustCompile(`^file ([0-2]) (-|` + namePart + `) (\*|` + partPart + `) (0|[1-9][0-9]?)\z`)
	stmtLine = regexp.MustCompile(`^(?:(?:import|star) ` + namePart + `|from (?:0 ` + namePart + `|[1-3] (?:-|` + namePart + `)) ` + partPart + `|set ` + partPart + ` (?:0|[1-9][0-9]?)|print ` + partPart + `|fail)\z`)
)

// readBack is ParseTree.
func readBack(text string) (impl.Tree, bool) {
	var u impl.Tree
	lines := strings.Split(text, "\n")
	for _, line := range lines[:len(lines)-1] {
		w := fileLine.FindStringSubmatch(line)
		if w != nil {
			f := treeOf(strings.Join(w[1:4], " ")).Files[0]
			f.Stamp = number(w[4])
			if f.Init == (f.Package == "") && f.Init || strings.Count(f.Package, ".") == 2 && !f.Init || slices.ContainsFunc(u.Files, func(g impl.File) bool { return samePlace(f, g) }) {
				return impl.Tree{}, false
			}
			u.Files = append(u.Files, f)
			continue
		}
		last := len(u.Files) - 1
		if last < 0 || !stmtLine.MatchString(line) || len(u.Files[last].Body) == 8 {
			return impl.Tree{}, false
		}
		u.Files[last].Body = append(u.Files[last].Body, stmtOf(line))
	}
	if lines[len(lines)-1] != "" || len(u.Files) > 12 {
		return impl.Tree{}, false
	}
	return u, true
}

// longestTree returns the tree with the longest text.
func longestTree() impl.Tree {
	var u impl.Tree
	for i := range 12 {
		f := impl.File{Root: i % 3, Package: "abc.xyz.ab" + string(rune('a'+i)), Init: true, Stamp: 99}
		for j := range 8 {
			f.Body = append(f.Body, impl.Stmt{Kind: impl.SmFrom, Module: "abc.zzz.aa" + string(rune('a'+j)), Level: 3, Name: "abc"})
		}
		u.Files = append(u.Files, f)
	}
	return u
}

// textTrees returns valid trees, with all sorts of bodies, and one with the longest text.
func textTrees() []impl.Tree {
	trees := append(someTrees(), lookTree(), longestTree())
	for i, body := range someBodies() {
		trees = append(trees, impl.Tree{Files: []impl.File{{Root: i % 3, Package: "a", Init: true, Stamp: i, Body: body}, {Name: "a", Stamp: 99 - i, Body: body}}})
	}
	for n := range 100 {
		trees = append(trees, impl.Tree{Files: []impl.File{{Root: n % 3, Name: "n", Stamp: n, Body: []impl.Stmt{{Kind: impl.SmSet, Name: "x", Value: 99 - n}}}}})
	}
	return trees
}

func TestP89TreesAreReadBack(t *testing.T) {
	for _, u := range textTrees() {
		text := impl.FormatTree(u)
		if text != formatted(u) {
			t.Errorf("FormatTree of %v is %q", u, text)
		}
		lines := len(u.Files)
		for _, f := range u.Files {
			lines += len(f.Body)
		}
		if v, ok := impl.ParseTree(text); !ok || !sameTree(u, v) || strings.Count(text, "\n") != lines {
			t.Errorf("ParseTree of %q is %v, %v", text, v, ok)
		}
	}
	for _, u := range otherTrees() {
		if text := impl.FormatTree(u); text != "" {
			t.Errorf("FormatTree of %v is %s", brief(u), brief(text))
		}
	}
}

func TestP89TextsAreTold(t *testing.T) {
	u := treeOf("0 - a:", "1 a *: import b; import a.b.c; from 0 a.b x; from 1 - y; from 3 b z", "2 a.b ccc: star b.c; set x 0; set xyz 99; print x; fail", "0 abc.abc.abc *: fail; fail")
	for i, stamp := range []int{0, 7, 10, 99} {
		u.Files[i].Stamp = stamp
	}
	want := "file 0 - a 0\nfile 1 a * 7\nimport b\nimport a.b.c\nfrom 0 a.b x\nfrom 1 - y\nfrom 3 b z\nfile 2 a.b ccc 10\nstar b.c\nset x 0\nset xyz 99\nprint x\nfail\nfile 0 abc.abc.abc * 99\nfail\nfail\n"
	if text := impl.FormatTree(u); text != want {
		t.Errorf("FormatTree is %q, and not %q", text, want)
	}
	if v, ok := impl.ParseTree(want); !ok || !sameTree(u, v) {
		t.Errorf("ParseTree is %v, %v", v, ok)
	}
	if v, ok := impl.ParseTree(""); !ok || len(v.Files) != 0 || impl.FormatTree(v) != "" {
		t.Errorf("ParseTree of nothing is %v, %v", v, ok)
	}
}

// expectRead fails if a text is not read as by the model, and is not written back if it is read.
func expectRead(t *testing.T, counts map[bool]int, text string) {
	t.Helper()
	u, ok := impl.ParseTree(text)
	want, wantOk := readBack(text)
	counts[ok]++
	if ok != wantOk || !sameTree(u, want) {
		t.Errorf("ParseTree of %q is %v, %v, and not %v, %v", text, u, ok, want, wantOk)
	}
	if ok && (impl.FormatTree(u) != text || !impl.ValidTree(u)) {
		t.Errorf("%q is written back as %q", text, impl.FormatTree(u))
	}
}

// TestP90TreesAreWrittenBack reads texts that differ from that of a tree in one byte, in one word, or in one line.
func TestP90TreesAreWrittenBack(t *testing.T) {
	counts := map[bool]int{}
	base := "file 0 - a 0\nimport b.c\nfrom 1 - x\nfile 1 a * 10\nfrom 0 a.b y\nset x 9\nstar b\nfile 2 a.b c 7\nprint x\nfail\n"
	letters := strings.Split("abz019-*. \n\t\r\x00\xff+_A/:é", "")
	for i := range len(base) + 1 {
		for _, letter := range letters {
			expectRead(t, counts, base[:i]+letter+base[i:])
			expectRead(t, counts, base[:i]+letter+base[min(i+1, len(base)):])
		}
		expectRead(t, counts, base[:i])
		expectRead(t, counts, base[i:])
		expectRead(t, counts, base[:i]+base[min(i+1, len(base)):])
	}
	words := []string{"file", "import", "from", "star", "set", "print", "fail", "", "-", "*", "a", "a.b", "a.b.c", "abcd", "a.b.c.d", "0", "1", "2", "3", "4", "99", "100", "-1", "-0", "+1", "00", "07", "1.0", "1e1", "0x1", "9223372036854775808", "a  b", " "}
	split := regexp.MustCompile(`[ \n]`).FindAllStringIndex(base, -1)
	start := 0
	for _, at := range split {
		for _, word := range words {
			expectRead(t, counts, base[:start]+word+base[at[0]:])
			expectRead(t, counts, base[:start]+word+" "+base[start:])
		}
		expectRead(t, counts, base[:start]+base[at[1]:])
		start = at[1]
	}
	if counts[true] < 100 || counts[false] < 1000 {
		t.Errorf("texts are read too often, or too rarely: %v", counts)
	}
}

// TestP90LinesAreWrittenBack reads texts with lines in all sorts of orders, and with too many of them.
func TestP90LinesAreWrittenBack(t *testing.T) {
	counts := map[bool]int{}
	r := rand.New(rand.NewSource(890))
	pool := strings.SplitAfter(formatted(handTree())+formatted(lookTree())+formatted(longestTree())+"what\n\nfile\nfile 0 - a\nfile 0 - * 0\nfile 0 - a 0 0\nfrom 0 - x\nfail now\n", "\n")
	for range 4000 {
		text := ""
		for range r.Intn(5) {
			text += pool[r.Intn(len(pool))]
		}
		expectRead(t, counts, text)
		expectRead(t, counts, "file 2 - zzz 5\n"+text)
		expectRead(t, counts, text+pool[r.Intn(len(pool))]+formatted(impl.Tree{Files: fullTree().Files[:9+r.Intn(4)]}))
	}
	for most := range 15 {
		text := ""
		for i := range most {
			text += "file 0 - " + string(rune('a'+i)) + " 1\n" + strings.Repeat("fail\n", 8)
		}
		expectRead(t, counts, text)
		expectRead(t, counts, "file 0 a * 1\n"+strings.Repeat("set x 1\n", most)+"file 0 b * 1\n")
		expectRead(t, counts, formatted(longestTree())+strings.Repeat("\n", most))
	}
	if counts[true] < 500 || counts[false] < 2000 {
		t.Errorf("texts are read too often, or too rarely: %v", counts)
	}
	for _, line := range []string{"file 0 - a 0\n", "fail\n", "\n", "a", " ", "file ", "set x 1 ", "file 0 - a " + strings.Repeat("0", 1000) + "1"} {
		for _, text := range []string{strings.Repeat(line, 100000), "file 0 - b 0\n" + strings.Repeat(line, 100000)} {
			if u, ok := impl.ParseTree(text); ok || len(u.Files) != 0 {
				t.Errorf("ParseTree of %.40q is %v", text, brief(u))
			}
		}
	}
}

// deskTree returns a tree of which the imports end in all ways but by fuel, which 12 files cannot use up.
func deskTree() impl.Tree {
	return treeOf("0 a *: set x 1", "0 a b: import c; star a", "1 - c: set x 2; print x", "1 d e: from 0 c y", "0 d f: print q", "0 - g: import a.b; fail", "0 - h: from 1 - x", "1 a k:", "0 - m: import n", "0 p.q r: import d")
}

// answered is the answer of a desk to a line about a valid tree.
func answered(u impl.Tree, path []int, line string) string {
	verb, name, _ := strings.Cut(line, " ")
	found := map[string]bool{}
	for _, f := range u.Files {
		for _, s := range upTo(nameAt(f)) {
			if looked(u, path, s).Kind != impl.SpNone {
				found[s] = true
			}
		}
	}
	switch line {
	case "names":
		return strings.Join(sortedOnce(found), " ")
	case "files":
		return fmt.Sprint(len(u.Files))
	}
	if !namePattern.MatchString(name) {
		return "what"
	}
	alone := ran(u, path, importing(name), 120)
	switch verb {
	case "find":
		return []string{"none", "module", "package", "space"}[looked(u, path, name).Kind]
	case "import":
		return []string{"done", "missing", "attr", "name", "fail", "relative", "fuel"}[alone.Ends[0]]
	case "order":
		return strings.Join(eventsOf(alone.Log, impl.EvDone), " ")
	}
	return "what"
}

// expectDesk fails if lines about a tree are not answered as by the model, and returns the answers.
func expectDesk(t *testing.T, u impl.Tree, path []int, lines []string) string {
	t.Helper()
	want := ""
	for _, line := range lines {
		want += answered(u, path, line) + "\n"
	}
	got := impl.RunDesk(formatted(u), path, lines)
	if got != want {
		t.Errorf("RunDesk of %q by %v is %q, and not %q for %q", formatted(u), path, got, want, lines)
	}
	return got
}

func TestP91EachLineHasAnAnswer(t *testing.T) {
	counts := map[string]int{}
	r := rand.New(rand.NewSource(891))
	for i := range 400 {
		u, path := runTree(r), runPath(r)
		if i%4 == 0 {
			u, path = deskTree(), randomPath(r)
		}
		var lines []string
		for range r.Intn(21) {
			name := pick(r, runNames...)
			if r.Intn(3) > 0 {
				name = nameAt(u.Files[r.Intn(len(u.Files))])
			}
			lines = append(lines, pick(r, "find ", "find ", "import ", "import ", "order ", "order ", "names ", "")+name)
			if r.Intn(10) == 0 {
				lines[len(lines)-1] = pick(r, "names", "files", "", "help")
			}
		}
		answers := expectDesk(t, u, path, lines)
		if strings.Count(answers, "\n") != len(lines) {
			t.Errorf("%d lines are answered by %q", len(lines), answers)
		}
		for j := range lines {
			if first := impl.RunDesk(formatted(u), path, lines[:j]); !strings.HasPrefix(answers, first) || strings.Count(first, "\n") != j {
				t.Errorf("the first %d of %q are answered by %q, and all by %q", j, lines, first, answers)
			}
		}
		for _, answer := range strings.Split(answers, "\n") {
			counts[answer]++
		}
	}
	expectEnough(t, counts, 10, "none", "module", "package", "space", "done", "missing", "attr", "name", "fail", "relative", "", "what")
}

func TestP91AnswersAreTold(t *testing.T) {
	u := deskTree()
	for line, want := range map[string]string{
		"find a": "package", "find a.b": "module", "find d": "space", "find p.q": "space", "find p.q.r": "module", "find a.k": "none", "find zzz": "none", "find a.b.c": "none",
		"import a": "done", "import a.b": "done", "import d": "done", "import n": "missing", "import m": "missing", "import d.e": "attr", "import d.f": "name", "import g": "fail", "import h": "relative",
		"order a": "a", "order a.b": "a c a.b", "order g": "a c a.b", "order p.q.r": "p p.q d p.q.r", "order h": "", "order n": "", "order d.e": "d c",
		"names": "a a.b c d d.e d.f g h m p p.q p.q.r", "files": "10",
	} {
		if got := expectDesk(t, u, []int{0, 1}, []string{line}); got != want+"\n" {
			t.Errorf("%q is answered by %q, and not by %q", line, got, want)
		}
	}
	if got := impl.RunDesk("", nil, []string{"files", "names", "find a", "import a", "order a", "x"}); got != "0\n\nnone\nmissing\n\nwhat\n" {
		t.Errorf("without files the answers are %q", got)
	}
}

// oddLines returns lines that ask for nothing.
func oddLines() []string {
	lines := []string{"", " ", "  ", "\n", "what", "wrong", "find", "import", "order", "names ", " names", "names a", "files ", " files", "files 1", "name", "file", "file 0 - a 0", "Find a", "FIND a", "find\ta", "find-a", "finda", "finds a", "fin a", "set x 1", "reload a", "\xff", "find a\x00", "names\n", "files\n", "namesfiles", "names files"}
	for _, verb := range []string{"find", "import", "order"} {
		for _, s := range append(oddNames(), "a b", " a", "a ", "a a", "a\n", "1 - a", "find a") {
			lines = append(lines, verb+" "+s)
		}
		lines = append(lines, " "+verb+" a", verb+"  a", verb+" a ", verb+"a", verb+"\na", verb+"s a", "\n"+verb+" a")
	}
	return lines
}

func TestP91OtherLinesAreAnsweredByWhat(t *testing.T) {
	lines := oddLines()
	for len(lines) > 0 {
		some := lines[:min(20, len(lines))]
		if got := impl.RunDesk(formatted(deskTree()), []int{0, 1}, some); got != strings.Repeat("what\n", len(some)) {
			t.Errorf("%s is answered by %q", brief(some), got)
		}
		if got := impl.RunDesk("file 0 - a\n", []int{0, 1}, some); got != strings.Repeat("wrong\n", len(some)) {
			t.Errorf("%s is answered by %q, where there is no tree", brief(some), got)
		}
		lines = lines[len(some):]
	}
}

func TestP91OtherArgumentsHaveNoAnswers(t *testing.T) {
	text := formatted(deskTree())
	for _, lines := range [][]string{make([]string, 21), slices.Repeat([]string{"find a"}, 21), make([]string, 1000000)} {
		for _, s := range []string{text, "", "x"} {
			if got := impl.RunDesk(s, []int{0, 1}, lines); got != "" {
				t.Errorf("%d lines are answered by %q", len(lines), brief(got))
			}
		}
	}
	for _, path := range otherPaths() {
		for _, s := range []string{text, "", "x"} {
			if got := impl.RunDesk(s, path, []string{"find a", "files", ""}); got != "" {
				t.Errorf("by %v the answers are %q", brief(path), got)
			}
		}
	}
	if got := impl.RunDesk(text, []int{0, 1}, nil); got != "" {
		t.Errorf("no lines are answered by %q", got)
	}
	for _, s := range []string{"x", "\n", " ", text + "\n", text[:len(text)-1], text + text, " " + text, "fail\n", strings.Repeat("a", 1000000)} {
		if got := impl.RunDesk(s, []int{0}, []string{"find a", "import b", "order a", "names", "files", "wrong", ""}); got != strings.Repeat("wrong\n", 7) {
			t.Errorf("about %.40q the answers are %q", s, got)
		}
	}
}

// TestSessionResultsAreFresh checks that results share no memory with arguments, with each other, or from call to call. All
// bodies of the session lie in one memory.
func TestSessionResultsAreFresh(t *testing.T) {
	body := append(make([]impl.Stmt, 0, 32), stmtOf("set x 1"), stmtOf("print x"), stmtOf("set x 2"), stmtOf("print x"))
	list := append(make([]impl.Act, 0, 32), actsOf("add 0 - a:", "import a", "add 1 b *:", "import b", "edit 0:", "import a", "edit 1:", "import b")...)
	for i, part := range [][]impl.Stmt{body[:2], nil, body[:1], nil, body[1:3], nil, body[:4], nil} {
		list[i].File.Body = part
	}
	path := append(make([]int, 0, 16), 0, 1)
	wantList := copyOfActs(list)
	unchanged := func() bool {
		return slices.EqualFunc(list, wantList, sameAct) && sameAct(list[:9][8], impl.Act{}) && slices.Equal(path[:4], []int{0, 1, 0, 0}) && slices.Equal(body[:5][2:], []impl.Stmt{stmtOf("set x 2"), stmtOf("print x"), {}})
	}
	for i, call := range []func() [][]int{
		func() [][]int { return impl.RunFresh(list, path, 1) },
		func() [][]int { return impl.RunWarm(list, path, 1, impl.MoStamp) },
		func() [][]int { return impl.RunWarm(list, path, 0, impl.MoHash) },
		func() [][]int { return impl.RunWarm(list, path, 0, impl.MoTrust) },
	} {
		want := answersText(call())
		for j := range call() {
			answers := call()
			others := answersText(slices.Delete(slices.Clone(answers), j, j+1))
			for k := range answers[j][:cap(answers[j])] {
				answers[j][:cap(answers[j])][k] = -9
			}
			if rest := answersText(slices.Delete(answers, j, j+1)); rest != others || answersText(call()) != want || !unchanged() {
				t.Fatalf("the call %d shares memory: %q, and then %q", i, others, rest)
			}
		}
	}
	for ticks := range 2 {
		for most := range len(list) + 1 {
			d := impl.DiskAfter(list[:most], ticks)
			want := impl.Disk{Tree: copyOfTree(d.Tree), Clock: d.Clock, Dirs: copyOfDirs(d.Dirs)}
			spoil(d.Tree)
			spoilDirs(d.Dirs)
			if again := impl.DiskAfter(list[:most], ticks); !sameDisk(again, want) || !unchanged() {
				t.Fatalf("DiskAfter shares memory with its arguments: %v, and then %v", want, again)
			}
		}
	}
	u, _ := impl.ParseTree(formatted(longestTree()))
	for i := range u.Files {
		spoilBody(u.Files[i].Body)
		if rest := u.Files[i+1:]; !slices.EqualFunc(rest, longestTree().Files[i+1:], sameFile) {
			t.Fatalf("the body %d shares memory with others", i)
		}
	}
	impl.FormatTree(impl.Tree{Files: []impl.File{{Name: "a", Body: body[:2]}}})
	if !unchanged() {
		t.Error("FormatTree changes its argument")
	}
}

func TestSessionLimits(t *testing.T) {
	for i, c := range [][2]int{
		{impl.MaxActs, 20}, {impl.MaxTicks, 4}, {impl.MaxDesk, 20}, {impl.AcAdd, 0}, {impl.AcRemove, 1}, {impl.AcEdit, 2}, {impl.AcImport, 3},
	} {
		if c[0] != c[1] {
			t.Errorf("the constant %d is %d, and not %d", i, c[0], c[1])
		}
	}
	// The longest session with the most ticks ends before stamps of files are too great.
	list := append(actsOf("add 0 - a: set x 1"), slices.Repeat(actsOf("edit 0: set x 2; print x"), 19)...)
	if d := impl.DiskAfter(list, 4); d.Clock != 80 || d.Tree.Files[0].Stamp != 80 || !impl.ValidDisk(d) {
		t.Errorf("the longest session leaves %+v", d)
	}
	// The largest tree, with the longest bodies, is imported from what is kept as from what is there.
	long := actsOf()
	for i := range 12 {
		long = append(long, actOf("add 0 - "+string(rune('a'+i))+": import "+string(rune('a'+(i+1)%12))+strings.Repeat("; set x 1; print x; set x 2", 2)+"; print x"))
	}
	long = append(long, actsOf("import a", "edit 5: set x 3; print x; fail", "import a", "import e", "remove 5", "import a", "import g", "import a")...)
	for mode := range 3 {
		for ticks := range 5 {
			expectPlayed(t, long, []int{0}, ticks, mode)
		}
	}
	if answers := impl.RunWarm(long, []int{0}, 1, impl.MoStamp); len(answers) != 20 || len(answers[12]) != 37 || answers[12][0] != impl.EnDone || answers[14][0] != impl.EnFail || answers[17][0] != impl.EnMissing {
		t.Errorf("the largest session is answered by %s", answersText(answers))
	}
}

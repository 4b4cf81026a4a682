package tests

import (
	"fmt"
	"math"
	"math/rand"
	"regexp"
	"slices"
	"strings"
	"testing"

	"loop.example/importhouse/impl"
)

var partPattern = regexp.MustCompile(`^[a-z]{1,3}\z`)

// otherNumbers has numbers that are neither roots, nor stamps, nor indices of files.
var otherNumbers = []int{-1, -2, -100, 100, 1000, math.MaxInt, math.MinInt}

// someStmts has a valid statement of each kind, and the ones at the limits.
var someStmts = []impl.Stmt{
	{Kind: 0, Module: "a"}, {Kind: 0, Module: "abc.abc.zzz"},
	{Kind: 1, Module: "a", Name: "b"}, {Kind: 1, Module: "a.b.c", Level: 3, Name: "zzz"}, {Kind: 1, Level: 1, Name: "a"}, {Kind: 1, Level: 3, Name: "a"},
	{Kind: 2, Module: "b"}, {Kind: 2, Module: "a.b"},
	{Kind: 3, Name: "a"}, {Kind: 3, Name: "xyz", Value: 99}, {Kind: 4, Name: "a"}, {Kind: 4, Name: "abc"}, {Kind: 5},
}

// stmtIsValid is the rule of the document for one statement.
func stmtIsValid(s impl.Stmt) bool {
	named, part := namePattern.MatchString(s.Module), partPattern.MatchString(s.Name)
	switch s.Kind {
	case 0, 2:
		return named && s.Level == 0 && s.Name == "" && s.Value == 0
	case 1:
		return (named || s.Module == "" && s.Level >= 1) && 0 <= s.Level && s.Level <= 3 && part && s.Value == 0
	case 3:
		return s.Module == "" && s.Level == 0 && part && 0 <= s.Value && s.Value <= 99
	case 4:
		return s.Module == "" && s.Level == 0 && part && s.Value == 0
	case 5:
		return s.Module == "" && s.Level == 0 && s.Name == "" && s.Value == 0
	}
	return false
}

// manyStmts returns statements of all kinds with all sorts of fields, valid and not.
func manyStmts() []impl.Stmt {
	var stmts []impl.Stmt
	for _, kind := range []int{-1, 0, 1, 2, 3, 4, 5, 6, math.MaxInt, math.MinInt} {
		for _, module := range []string{"", "a", "a.b.c", "abc", "a.", "a.b.c.d", "A"} {
			for _, level := range []int{-1, 0, 1, 3, 4, math.MaxInt, math.MinInt} {
				for _, name := range []string{"", "a", "abc", "abcd", "a.b", "*", "a\n"} {
					for _, value := range []int{-1, 0, 1, 99, 100, math.MaxInt, math.MinInt} {
						stmts = append(stmts, impl.Stmt{Kind: kind, Module: module, Level: level, Name: name, Value: value})
					}
				}
			}
		}
	}
	return stmts
}

// someBodies returns valid bodies, the empty one and the longest ones among them.
func someBodies() [][]impl.Stmt {
	bodies := [][]impl.Stmt{nil, {}, someStmts[:8], someStmts[5:]}
	for i := range someStmts {
		bodies = append(bodies, someStmts[i:i+1], slices.Repeat(someStmts[i:i+1], 8))
	}
	return bodies
}

// otherBodies returns bodies that are not valid.
func otherBodies() [][]impl.Stmt {
	bodies := [][]impl.Stmt{someStmts[:9], slices.Repeat(someStmts[:1], 9), make([]impl.Stmt, 1), make([]impl.Stmt, 1000000)}
	for _, s := range []impl.Stmt{
		{Kind: 1, Name: "a"}, {Kind: 1, Module: "a", Level: 4, Name: "a"}, {Kind: 1, Module: "a", Level: -1, Name: "a"}, {Kind: 2},
		{Kind: 3, Name: "a", Value: 100}, {Kind: 3, Name: "a", Value: -1}, {Kind: 3, Value: 1}, {Kind: 4}, {Kind: 5, Value: 1}, {Kind: 6}, {Kind: -1},
	} {
		bodies = append(bodies, []impl.Stmt{s}, []impl.Stmt{someStmts[0], s}, []impl.Stmt{s, someStmts[0]})
	}
	return bodies
}

// handTree returns a tree with a package and a module of one name, directories without files, and one module in several roots.
func handTree() impl.Tree {
	return impl.Tree{Files: []impl.File{
		{Root: 0, Package: "a", Init: true, Stamp: 1, Body: []impl.Stmt{{Kind: 3, Name: "x", Value: 1}}},
		{Root: 0, Name: "a", Stamp: 99},
		{Root: 1, Package: "a", Init: true, Body: []impl.Stmt{{Kind: 0, Module: "b"}, {Kind: 5}}},
		{Root: 2, Package: "b.c", Name: "d", Stamp: 2},
		{Root: 2, Package: "ab.c.abc", Init: true},
		{Root: 1, Name: "b"},
		{Root: 0, Package: "a.b", Name: "c"},
		{Root: 0, Package: "a.b", Name: "a", Body: slices.Repeat([]impl.Stmt{{Kind: 4, Name: "x"}}, 8)},
		{Root: 0, Package: "a", Name: "z"},
		{Root: 0, Package: "ab", Name: "b"},
	}}
}

// fullTree returns a tree with the largest number of files.
func fullTree() impl.Tree {
	var t impl.Tree
	for i := range 12 {
		t.Files = append(t.Files, impl.File{Root: i % 3, Package: "p", Name: string(rune('a' + i)), Stamp: i, Body: slices.Clone(someStmts[i : i+1])})
	}
	return t
}

// randomFile returns a file at one of few places, so that places and directories meet.
func randomFile(r *rand.Rand) impl.File {
	packages := []string{"", "", "a", "a", "b", "ab", "a.a", "a.b", "b.a", "a.b.a", "ab.a.b"}
	f := impl.File{Root: r.Intn(3), Package: packages[r.Intn(len(packages))], Stamp: r.Intn(100)}
	if f.Package != "" && r.Intn(3) == 0 || strings.Count(f.Package, ".") == 2 {
		f.Init = true
	} else {
		f.Name = []string{"a", "b", "ab"}[r.Intn(3)]
	}
	for range r.Intn(4) {
		f.Body = append(f.Body, someStmts[r.Intn(len(someStmts))])
	}
	return f
}

// someTrees returns valid trees, without files, with few and with many.
func someTrees() []impl.Tree {
	trees := []impl.Tree{{}, {Files: []impl.File{}}, {Files: handTree().Files[4:5]}, handTree(), fullTree()}
	r := rand.New(rand.NewSource(2))
	for i := range 300 {
		var t impl.Tree
		for range i % 13 {
			f := randomFile(r)
			if !slices.ContainsFunc(t.Files, func(g impl.File) bool { return samePlace(f, g) }) {
				t.Files = append(t.Files, f)
			}
		}
		trees = append(trees, t)
	}
	return trees
}

// otherFiles returns files that are not valid as one of a tree.
func otherFiles() []impl.File {
	files := []impl.File{
		{}, {Init: true}, {Package: "a"}, {Package: "a", Name: "b", Init: true}, {Name: "b", Init: true},
		{Package: "a.b.c", Name: "d"}, {Package: "a", Name: "b.c"}, {Name: "a.b"}, {Package: "a", Name: "*", Init: true},
		{Root: 3, Name: "a"}, {Root: 3, Package: "a", Init: true},
	}
	for _, n := range otherNumbers {
		files = append(files, impl.File{Root: n, Name: "a"}, impl.File{Stamp: n, Name: "a"}, impl.File{Root: n, Package: "a", Init: true}, impl.File{Stamp: n, Package: "a", Init: true})
	}
	for _, s := range append(longTexts(), noParts...) {
		files = append(files, impl.File{Name: s}, impl.File{Package: "a", Name: s})
	}
	for _, s := range append(longTexts(), noNames...) {
		files = append(files, impl.File{Package: s, Init: true})
		if s != "" {
			files = append(files, impl.File{Package: s, Name: "a"})
		}
	}
	for _, body := range otherBodies() {
		files = append(files, impl.File{Name: "a", Body: body}, impl.File{Package: "a", Init: true, Body: body})
	}
	return files
}

// otherTrees returns trees that are not valid.
func otherTrees() []impl.Tree {
	full := fullTree().Files
	trees := []impl.Tree{
		{Files: append(fullTree().Files, impl.File{Name: "a"})},
		{Files: append(fullTree().Files, full[0])},
		{Files: make([]impl.File, 100000)},
		{Files: []impl.File{{Name: "a"}, {Name: "a", Stamp: 1, Body: someStmts[:1]}}},
		{Files: []impl.File{{Package: "a", Init: true}, {Name: "a"}, {Package: "a", Init: true, Stamp: 2}}},
	}
	for i, f := range otherFiles() {
		g := impl.File{Root: 1, Package: "b", Name: "c"}
		trees = append(trees, impl.Tree{Files: [][]impl.File{{f}, {f, g}, {g, f}, {g, f, {Name: "zzz"}}}[i%4]})
	}
	return trees
}

// brief returns the beginning of the text of a value, some of which are very long.
func brief(v any) string {
	text := fmt.Sprintf("%+v", v)
	return text[:min(len(text), 300)]
}

func samePlace(f impl.File, g impl.File) bool {
	return f.Root == g.Root && f.Package == g.Package && f.Init == g.Init && f.Name == g.Name
}

func sameFile(f impl.File, g impl.File) bool {
	return samePlace(f, g) && f.Stamp == g.Stamp && slices.Equal(f.Body, g.Body)
}

func sameTree(t impl.Tree, u impl.Tree) bool {
	return slices.EqualFunc(t.Files, u.Files, sameFile)
}

// copyOfTree returns a tree that shares no memory with another one.
func copyOfTree(t impl.Tree) impl.Tree {
	u := impl.Tree{Files: slices.Clone(t.Files)}
	for i := range u.Files {
		u.Files[i].Body = slices.Clone(u.Files[i].Body)
	}
	return u
}

// nameAt returns the module's name of a valid file.
func nameAt(f impl.File) string {
	return strings.Trim(f.Package+"."+f.Name, ".")
}

// sortedOnce returns the texts of a set, ascending.
func sortedOnce(set map[string]bool) []string {
	var texts []string
	for s := range set {
		texts = append(texts, s)
	}
	slices.Sort(texts)
	return texts
}

// listing is ListDir of valid arguments, done with texts, and whether there is such a directory.
func listing(t impl.Tree, root int, p string) ([]string, bool) {
	way := p + "."
	if p == "" {
		way = ""
	}
	set := map[string]bool{}
	for _, f := range t.Files {
		rest, below := strings.CutPrefix(f.Package+".", way)
		if f.Root != root || !below {
			continue
		}
		first, _, deeper := strings.Cut(rest, ".")
		if f.Package == p && f.Init {
			set["*"] = true
		} else if f.Package == p {
			set[f.Name] = true
		} else if deeper {
			set[first+"/"] = true
		}
	}
	return sortedOnce(set), p == "" || len(set) > 0
}

// somePlaces returns packages that trees have directories of, and others.
var somePlaces = []string{"", "a", "b", "c", "p", "ab", "abc", "a.a", "a.b", "b.a", "b.c", "ab.a", "ab.c", "a.b.a", "a.b.c", "ab.a.b", "ab.c.abc", "ab.c.ab"}

func TestP13StatementsCanBeLeftOut(t *testing.T) {
	for _, body := range someBodies() {
		if !impl.ValidBody(body) {
			t.Fatalf("%v is valid", body)
		}
		for i := range body {
			rest := slices.Delete(slices.Clone(body), i, i+1)
			if !impl.ValidBody(rest) || impl.HashOf(rest) < 0 {
				t.Errorf("%v is not valid without the statement %d", body, i)
			}
		}
	}
	for _, body := range otherBodies() {
		if impl.ValidBody(body) {
			t.Errorf("%v is not valid", brief(body))
		}
	}
}

func TestP13StatementsHaveWhatTheirKindHas(t *testing.T) {
	for _, s := range manyStmts() {
		want := stmtIsValid(s)
		if impl.ValidBody([]impl.Stmt{s}) != want || impl.ValidBody([]impl.Stmt{{Kind: 5}, s, {Kind: 5}}) != want {
			t.Errorf("ValidBody of %+v is not %v", s, want)
		}
		if impl.ValidTree(impl.Tree{Files: []impl.File{{Name: "a", Body: []impl.Stmt{s}}}}) != want {
			t.Errorf("ValidTree with %+v is not %v", s, want)
		}
	}
	for _, text := range longTexts() {
		for kind := range 6 {
			if impl.ValidBody([]impl.Stmt{{Kind: kind, Module: text, Name: "a"}}) || impl.ValidBody([]impl.Stmt{{Kind: kind, Module: "a", Name: text}}) || impl.ValidBody([]impl.Stmt{{Kind: kind, Name: text}}) {
				t.Errorf("a long text is valid for the kind %d", kind)
			}
		}
	}
}

func TestP14FilesCanGo(t *testing.T) {
	for _, u := range someTrees() {
		if !impl.ValidTree(u) {
			t.Fatalf("%v is valid", u)
		}
		for i := range u.Files {
			if !impl.ValidTree(impl.Tree{Files: slices.Delete(slices.Clone(u.Files), i, i+1)}) {
				t.Errorf("%v is not valid without the file %d", u, i)
			}
		}
	}
	for _, u := range otherTrees() {
		if impl.ValidTree(u) {
			t.Errorf("%v is not valid", brief(u))
		}
	}
}

func TestP14OneFileLiesAtAPlace(t *testing.T) {
	r := rand.New(rand.NewSource(3))
	for range 3000 {
		files := []impl.File{randomFile(r), randomFile(r), randomFile(r), randomFile(r)}
		want := true
		for i, f := range files {
			want = want && !slices.ContainsFunc(files[:i], func(g impl.File) bool { return samePlace(f, g) })
		}
		if impl.ValidTree(impl.Tree{Files: files}) != want {
			t.Errorf("ValidTree of %v is not %v", files, want)
		}
	}
	for _, files := range [][]impl.File{
		{{Name: "a"}, {Root: 1, Name: "a"}, {Root: 2, Name: "a"}},
		{{Name: "a"}, {Package: "a", Init: true}, {Package: "a", Name: "a"}, {Package: "a.a", Init: true}},
		{{Root: 2, Stamp: 99, Package: "abc.abc.zzz", Init: true}, {Root: 2, Package: "abc.abc", Name: "zzz"}},
	} {
		if !impl.ValidTree(impl.Tree{Files: files}) {
			t.Errorf("%v is valid, as all places are different", files)
		}
	}
}

func TestP15ModulesAreUnderTheirPackages(t *testing.T) {
	for _, u := range someTrees() {
		for _, f := range u.Files {
			name := impl.ModuleOf(f)
			if f.Init && name != f.Package || !f.Init && (name != impl.ChildOf(f.Package, f.Name) || impl.ParentOf(name) != f.Package) || name != nameAt(f) {
				t.Errorf("ModuleOf(%v) = %q", f, name)
			}
		}
	}
	for _, f := range otherFiles() {
		if impl.ModuleOf(f) != "" {
			t.Errorf("ModuleOf(%v) = %.20q", brief(f), impl.ModuleOf(f))
		}
	}
	for want, f := range map[string]impl.File{"abc": {Name: "abc"}, "a.b": {Package: "a", Name: "b"}, "a": {Package: "a", Init: true}, "a.b.c": {Root: 2, Package: "a.b.c", Init: true, Stamp: 99}} {
		if impl.ModuleOf(f) != want {
			t.Errorf("ModuleOf(%v) = %q", f, impl.ModuleOf(f))
		}
	}
}

func TestP16WhatIsAddedCanBeRemoved(t *testing.T) {
	r := rand.New(rand.NewSource(4))
	for _, u := range someTrees() {
		for range 10 {
			f := randomFile(r)
			v, ok := impl.AddFile(u, f)
			taken := slices.ContainsFunc(u.Files, func(g impl.File) bool { return samePlace(f, g) })
			if ok == (taken || len(u.Files) == 12) {
				t.Fatalf("AddFile of %v to %v is %v", f, u, ok)
			}
			if !ok {
				if len(v.Files) != 0 {
					t.Errorf("AddFile has files: %v", v)
				}
				continue
			}
			if !impl.ValidTree(v) || !sameTree(v, impl.Tree{Files: append(slices.Clone(u.Files), f)}) {
				t.Errorf("AddFile of %v to %v is %v", f, u, v)
			}
			if w, ok := impl.AddFile(v, f); ok || len(w.Files) != 0 {
				t.Errorf("%v is added again", f)
			}
			if w, ok := impl.RemoveFile(v, len(u.Files)); !ok || !sameTree(w, u) {
				t.Errorf("RemoveFile of what was added to %v is %v", u, w)
			}
		}
	}
}

func TestP16OtherFilesAreNotAdded(t *testing.T) {
	for _, u := range []impl.Tree{{}, {Files: []impl.File{{Root: 1, Package: "b", Name: "c"}}}} {
		for _, f := range otherFiles() {
			if v, ok := impl.AddFile(u, f); ok || len(v.Files) != 0 {
				t.Errorf("AddFile of %v is %v", brief(f), brief(v))
			}
		}
	}
	for _, u := range otherTrees() {
		if v, ok := impl.AddFile(u, impl.File{Root: 2, Name: "q"}); ok || len(v.Files) != 0 {
			t.Errorf("AddFile to %v is %v", brief(u), brief(v))
		}
	}
	if v, ok := impl.AddFile(fullTree(), impl.File{Root: 2, Name: "q"}); ok || len(v.Files) != 0 {
		t.Errorf("AddFile to a full tree is %v", v)
	}
}

func TestP17TheOthersStay(t *testing.T) {
	for _, u := range someTrees() {
		for i := range u.Files {
			v, ok := impl.RemoveFile(u, i)
			if !ok || !impl.ValidTree(v) || !sameTree(v, impl.Tree{Files: slices.Delete(slices.Clone(u.Files), i, i+1)}) {
				t.Errorf("RemoveFile of %d from %v is %v", i, u, v)
			}
		}
		for _, i := range append([]int{len(u.Files), len(u.Files) + 1}, otherNumbers...) {
			if v, ok := impl.RemoveFile(u, i); ok || len(v.Files) != 0 {
				t.Errorf("RemoveFile of %d from %v is %v", i, u, v)
			}
		}
	}
}

func TestP17OtherTreesLoseNothing(t *testing.T) {
	// Without the file with the index, most of these would be valid.
	for _, u := range otherTrees() {
		for i := range min(3, len(u.Files)) {
			if v, ok := impl.RemoveFile(u, i); ok || len(v.Files) != 0 {
				t.Errorf("RemoveFile of %d from %v is %v", i, brief(u), brief(v))
			}
		}
	}
	full := fullTree()
	if v, ok := impl.RemoveFile(impl.Tree{Files: append(full.Files, impl.File{Name: "a"})}, 12); ok || len(v.Files) != 0 {
		t.Errorf("RemoveFile from a tree with 13 files is %v", v)
	}
}

func TestEditFileHasTheEditAlone(t *testing.T) {
	for n, u := range someTrees() {
		bodies := someBodies()
		body := bodies[n%len(bodies)]
		for i, f := range u.Files {
			stamp := []int{0, 1, 50, 99}[i%4]
			v, ok := impl.EditFile(u, i, stamp, body)
			want := copyOfTree(u)
			want.Files[i].Stamp, want.Files[i].Body = stamp, body
			if !ok || !impl.ValidTree(v) || !sameTree(v, want) {
				t.Fatalf("EditFile of %d in %v is %v", i, u, v)
			}
			if w, ok := impl.EditFile(v, i, f.Stamp, f.Body); !ok || !sameTree(w, u) {
				t.Errorf("EditFile back of %d in %v is %v", i, u, w)
			}
			for _, stamp := range otherNumbers {
				if v, ok := impl.EditFile(u, i, stamp, body); ok || len(v.Files) != 0 {
					t.Errorf("EditFile with the stamp %d is %v", stamp, v)
				}
			}
		}
		for _, i := range append([]int{len(u.Files), len(u.Files) + 1}, otherNumbers...) {
			if v, ok := impl.EditFile(u, i, 1, body); ok || len(v.Files) != 0 {
				t.Errorf("EditFile of %d in %v is %v", i, u, v)
			}
		}
	}
}

func TestEditFileRejectsWhatIsNotValid(t *testing.T) {
	for _, body := range otherBodies() {
		if v, ok := impl.EditFile(handTree(), 1, 1, body); ok || len(v.Files) != 0 {
			t.Errorf("EditFile with %v is %v", brief(body), brief(v))
		}
	}
	// The edit would mend some of these.
	for _, u := range otherTrees() {
		for i := range min(3, len(u.Files)) {
			if v, ok := impl.EditFile(u, i, 1, nil); ok || len(v.Files) != 0 {
				t.Errorf("EditFile of %d in %v is %v", i, brief(u), brief(v))
			}
		}
	}
}

func TestP19DirectoriesHaveDirectoriesAboveThem(t *testing.T) {
	for _, u := range someTrees() {
		for root := range 3 {
			for _, p := range somePlaces {
				_, want := listing(u, root, p)
				if impl.HasDir(u, root, p) != want {
					t.Errorf("HasDir(%v, %d, %q) is not %v", u, root, p, want)
				}
				above := impl.ParentOf(p)
				if want && p != "" && (!impl.HasDir(u, root, above) || !slices.Contains(impl.ListDir(u, root, above), impl.LastOf(p)+"/")) {
					t.Errorf("%v has %q in the root %d, and not what is above it", u, p, root)
				}
			}
		}
	}
}

func TestP19DirectoriesWithoutFilesAreThere(t *testing.T) {
	u := handTree()
	for _, c := range []struct {
		root int
		p    string
		want bool
	}{
		{0, "", true}, {1, "", true}, {2, "", true}, {0, "a", true}, {1, "a", true}, {2, "a", false}, {0, "a.b", true}, {1, "a.b", false}, {0, "a.b.c", false},
		{2, "b", true}, {2, "b.c", true}, {2, "b.c.d", false}, {1, "b", false}, {0, "b", false}, {2, "ab", true}, {2, "ab.c", true}, {2, "ab.c.abc", true}, {2, "ab.c.ab", false}, {0, "ab", true}, {0, "ab.b", false}, {1, "ab", false},
	} {
		if impl.HasDir(u, c.root, c.p) != c.want {
			t.Errorf("HasDir(%d, %q) is not %v", c.root, c.p, c.want)
		}
	}
	if !impl.HasDir(impl.Tree{}, 0, "") || !impl.HasDir(impl.Tree{}, 2, "") || impl.HasDir(impl.Tree{}, 0, "a") {
		t.Error("a tree without files has the directories of nothing alone")
	}
}

func TestP19OtherDirectoriesAreNot(t *testing.T) {
	for _, root := range append([]int{3}, otherNumbers...) {
		for _, p := range []string{"", "a", "a.b"} {
			if impl.HasDir(handTree(), root, p) || len(impl.ListDir(handTree(), root, p)) != 0 {
				t.Errorf("there is no root %d", root)
			}
		}
	}
	for _, p := range append(longTexts(), noNames...) {
		if p != "" && (impl.HasDir(handTree(), 0, p) || len(impl.ListDir(handTree(), 0, p)) != 0) {
			t.Errorf("%.20q is no package", p)
		}
	}
	for _, u := range otherTrees() {
		for _, p := range []string{"", "a", "b", "p"} {
			for root := range 3 {
				if impl.HasDir(u, root, p) || len(impl.ListDir(u, root, p)) != 0 {
					t.Errorf("%v has a directory %q", brief(u), p)
				}
			}
		}
	}
}

func TestP20ListingsTellWhatIsThere(t *testing.T) {
	for _, u := range someTrees() {
		for _, f := range u.Files {
			entry := f.Name
			if f.Init {
				entry = "*"
			}
			if !slices.Contains(impl.ListDir(u, f.Root, f.Package), entry) {
				t.Errorf("ListDir of %q in %v has no %q", f.Package, u, entry)
			}
		}
		for root := range 3 {
			for _, p := range somePlaces {
				list := impl.ListDir(u, root, p)
				want, _ := listing(u, root, p)
				if !slices.Equal(list, want) {
					t.Errorf("ListDir(%v, %d, %q) = %q, and not %q", u, root, p, list, want)
				}
				for i := range list {
					if i > 0 && list[i-1] >= list[i] {
						t.Errorf("%q does not ascend", list)
					}
				}
				if !impl.HasDir(u, root, p) && len(list) != 0 {
					t.Errorf("%q are listed of no directory", list)
				}
			}
		}
	}
}

func TestP20DirectoriesAreListed(t *testing.T) {
	u := handTree()
	for _, c := range []struct {
		root int
		p    string
		want []string
	}{
		{0, "", []string{"a", "a/", "ab/"}}, {1, "", []string{"a/", "b"}}, {2, "", []string{"ab/", "b/"}},
		{0, "a", []string{"*", "b/", "z"}}, {1, "a", []string{"*"}}, {2, "a", nil}, {0, "a.b", []string{"a", "c"}}, {0, "a.b.c", nil},
		{2, "b", []string{"c/"}}, {2, "b.c", []string{"d"}}, {2, "ab", []string{"c/"}}, {2, "ab.c", []string{"abc/"}}, {2, "ab.c.abc", []string{"*"}}, {0, "ab", []string{"b"}},
	} {
		if list := impl.ListDir(u, c.root, c.p); !slices.Equal(list, c.want) {
			t.Errorf("ListDir(%d, %q) = %q", c.root, c.p, list)
		}
	}
	if impl.InitMark != "*" || impl.DirMark != "/" {
		t.Error("the marks are others")
	}
}

// hashed is HashOf of a valid body, done with the bytes as a list.
func hashed(body []impl.Stmt) int {
	h := uint64(1)
	for _, s := range body {
		list := []uint64{uint64(s.Kind), uint64(s.Level), uint64(s.Value)}
		for _, b := range []byte(s.Module + "\x00" + s.Name + "\x00") {
			list = append(list, uint64(b))
		}
		for _, k := range list {
			h = (131*h + k + 1) % 1000003
		}
	}
	return int(h)
}

func TestP21HashesAreNumbersOfBodies(t *testing.T) {
	for _, body := range someBodies() {
		h := impl.HashOf(body)
		if h < 0 || h >= 1000003 || h != hashed(body) || h != impl.HashOf(slices.Clone(body)) {
			t.Errorf("HashOf(%v) = %d, and not %d", body, h, hashed(body))
		}
	}
	for _, s := range manyStmts() {
		if h := impl.HashOf([]impl.Stmt{s}); stmtIsValid(s) && h != hashed([]impl.Stmt{s}) || !stmtIsValid(s) && h != -1 {
			t.Errorf("HashOf(%+v) = %d", s, h)
		}
	}
	for _, body := range otherBodies() {
		if h := impl.HashOf(body); h != -1 {
			t.Errorf("HashOf(%v) = %d", brief(body), h)
		}
	}
}

func TestP21HashesAreTold(t *testing.T) {
	for _, c := range []struct {
		body []impl.Stmt
		want int
	}{
		{nil, 1},
		{[]impl.Stmt{}, 1},
		{[]impl.Stmt{{Kind: 5}}, 633517},
		{[]impl.Stmt{{Kind: 3, Name: "x", Value: 1}}, 506459},
		{[]impl.Stmt{{Kind: 0, Module: "a"}}, 785529},
		{[]impl.Stmt{{Kind: 2, Module: "a"}, {Kind: 1, Level: 1, Name: "zzz"}}, 413967},
	} {
		if h := impl.HashOf(c.body); h != c.want {
			t.Errorf("HashOf(%v) = %d", c.body, h)
		}
	}
	if impl.HashStep != 131 || impl.HashSize != 1000003 {
		t.Error("the numbers of hashes are others")
	}
}

func TestP22EachFileHasAModule(t *testing.T) {
	for _, u := range someTrees() {
		set := map[string]bool{}
		names := impl.ModulesOf(u)
		for _, f := range u.Files {
			set[nameAt(f)] = true
			if !slices.Contains(names, impl.ModuleOf(f)) {
				t.Errorf("ModulesOf(%v) = %q", u, names)
			}
		}
		if !slices.Equal(names, sortedOnce(set)) {
			t.Errorf("ModulesOf(%v) = %q", u, names)
		}
	}
	if names := impl.ModulesOf(handTree()); !slices.Equal(names, []string{"a", "a.b.a", "a.b.c", "a.z", "ab.b", "ab.c.abc", "b", "b.c.d"}) {
		t.Errorf("ModulesOf = %q", names)
	}
	for _, u := range otherTrees() {
		if names := impl.ModulesOf(u); len(names) != 0 {
			t.Errorf("ModulesOf(%v) = %q", brief(u), names)
		}
	}
}

func TestP23PackagesAreDirectories(t *testing.T) {
	for _, u := range someTrees() {
		set := map[string]bool{}
		for _, f := range u.Files {
			for p := f.Package; p != ""; p = p[:max(0, strings.LastIndex(p, "."))] {
				set[p] = true
			}
		}
		packages := impl.PackagesOf(u)
		if !slices.Equal(packages, sortedOnce(set)) {
			t.Errorf("PackagesOf(%v) = %q", u, packages)
		}
		for _, p := range append(slices.Clone(somePlaces), packages...) {
			there := impl.HasDir(u, 0, p) || impl.HasDir(u, 1, p) || impl.HasDir(u, 2, p)
			if p != "" && there != slices.Contains(packages, p) {
				t.Errorf("PackagesOf(%v) = %q, and %q has a directory: %v", u, packages, p, there)
			}
		}
		for _, p := range packages {
			if above := impl.ParentOf(p); above != "" && !slices.Contains(packages, above) {
				t.Errorf("PackagesOf(%v) = %q, without %q", u, packages, above)
			}
		}
	}
	if packages := impl.PackagesOf(handTree()); !slices.Equal(packages, []string{"a", "a.b", "ab", "ab.c", "ab.c.abc", "b", "b.c"}) {
		t.Errorf("PackagesOf = %q", packages)
	}
	for _, u := range otherTrees() {
		if packages := impl.PackagesOf(u); len(packages) != 0 {
			t.Errorf("PackagesOf(%v) = %q", brief(u), packages)
		}
	}
}

// spoil changes all that a tree has, and what lies behind it in its memory.
func spoil(t impl.Tree) {
	files := t.Files[:cap(t.Files)]
	for i := range files {
		body := files[i].Body[:cap(files[i].Body)]
		for j := range body {
			body[j] = impl.Stmt{Kind: -1, Name: "spoilt"}
		}
		files[i] = impl.File{Root: -1, Name: "spoilt"}
	}
}

// TestTreeResultsAreFresh checks that results share no memory with arguments, and that these stay as they are.
func TestTreeResultsAreFresh(t *testing.T) {
	body := append(make([]impl.Stmt, 0, 16), someStmts[0], someStmts[1])
	added := impl.File{Root: 2, Name: "q", Body: body[:1]}
	for i, change := range []func(impl.Tree) (impl.Tree, bool){
		func(u impl.Tree) (impl.Tree, bool) { return impl.AddFile(u, added) },
		func(u impl.Tree) (impl.Tree, bool) { return impl.RemoveFile(u, 2) },
		func(u impl.Tree) (impl.Tree, bool) { return impl.RemoveFile(u, 9) },
		func(u impl.Tree) (impl.Tree, bool) { return impl.EditFile(u, 0, 7, body[:1]) },
		func(u impl.Tree) (impl.Tree, bool) { return impl.EditFile(u, 3, 7, body[:1]) },
	} {
		files := append(make([]impl.File, 0, 40), handTree().Files...)
		files = append(files, impl.File{Root: 1, Name: "kept"})
		u := impl.Tree{Files: files[:10]}
		before := copyOfTree(impl.Tree{Files: files})
		v, ok := change(u)
		if !ok {
			t.Fatalf("the change %d is not possible", i)
		}
		spoil(v)
		if !sameTree(impl.Tree{Files: files}, before) || !slices.Equal(body, someStmts[:2]) {
			t.Errorf("the change %d shares memory with its arguments, or changes them", i)
		}
	}
}

// TestTreeResultsShareNoBodies checks that bodies with one memory in an argument have their own ones in a result.
func TestTreeResultsShareNoBodies(t *testing.T) {
	body := slices.Clone(someStmts[:2])
	u := impl.Tree{Files: []impl.File{{Name: "a", Body: body}, {Name: "b", Body: body[:1]}, {Name: "c"}}}
	added, _ := impl.AddFile(u, impl.File{Name: "d", Body: body})
	removed, _ := impl.RemoveFile(u, 2)
	edited, _ := impl.EditFile(u, 2, 1, body)
	for _, v := range []impl.Tree{added, removed, edited} {
		want := copyOfTree(v)
		first := v.Files[0].Body
		first = first[:cap(first)]
		for i := range first {
			first[i] = impl.Stmt{Kind: 5}
		}
		if !slices.EqualFunc(v.Files[1:], want.Files[1:], sameFile) {
			t.Errorf("bodies of one result share memory: %v", v)
		}
	}
}

// TestTreeListsAreFresh checks that no call sees what was done to the lists of another one.
func TestTreeListsAreFresh(t *testing.T) {
	u := handTree()
	for i, list := range []func() []string{
		func() []string { return impl.ListDir(u, 0, "a") },
		func() []string { return impl.ModulesOf(u) },
		func() []string { return impl.PackagesOf(u) },
	} {
		first, want := list(), list()
		for j := range first {
			first[j] = "changed"
		}
		if second := list(); !slices.Equal(second, want) || !sameTree(u, handTree()) {
			t.Errorf("the list %d is shared: %q", i, second)
		}
	}
}

func TestTreeLimits(t *testing.T) {
	for i, c := range [][2]int{
		{impl.MaxStmts, 8}, {impl.MaxValue, 99}, {impl.MaxRoots, 3}, {impl.MaxStamp, 99}, {impl.MaxFiles, 12},
		{impl.SmImport, 0}, {impl.SmFrom, 1}, {impl.SmStar, 2}, {impl.SmSet, 3}, {impl.SmPrint, 4}, {impl.SmFail, 5},
	} {
		if c[0] != c[1] {
			t.Errorf("the constant %d is %d, and not %d", i, c[0], c[1])
		}
	}
	if len(fullTree().Files) != 12 || !impl.ValidTree(fullTree()) {
		t.Error("a tree with 12 files is valid")
	}
	v, ok := impl.AddFile(impl.Tree{Files: fullTree().Files[:11]}, impl.File{Root: 2, Name: "q", Stamp: 99, Body: slices.Repeat(someStmts[9:10], 8)})
	if !ok || len(v.Files) != 12 {
		t.Error("a twelfth file can be added")
	}
}

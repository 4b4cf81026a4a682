package tests

import (
	"math"
	"math/rand"
	"slices"
	"strings"
	"testing"

	"loop.example/importhouse/impl"
)

// allPaths returns all search paths: the empty one, and those of one, two and three roots.
func allPaths() [][]int {
	paths := [][]int{nil}
	for a := range 3 {
		paths = append(paths, []int{a})
		for b := range 3 {
			if a != b {
				paths = append(paths, []int{a, b}, []int{a, b, 3 - a - b})
			}
		}
	}
	return paths
}

// otherPaths returns roots that are no search path, most of which begin with one.
func otherPaths() [][]int {
	paths := [][]int{
		{0, 0}, {0, 1, 0}, {0, 1, 1}, {1, 0, 0}, {2, 2, 2}, {3}, {0, 3}, {3, 0}, {0, 1, 2, 3}, {0, 1, 2, 0}, {0, 1, 2, 2},
		make([]int, 1000000),
	}
	for _, n := range otherNumbers {
		paths = append(paths, []int{n}, []int{0, n}, []int{n, 0, 1}, []int{0, 1, n}, []int{0, 1, 2, n})
	}
	return paths
}

// lookNames has the names that are looked for: those that the trees have, and others.
var lookNames = []string{
	"a", "b", "c", "z", "ab", "p", "zzz", "a.a", "a.b", "a.c", "a.z", "b.a", "b.b", "b.c", "c.a", "ab.a", "ab.b", "ab.c", "p.a", "p.l", "a.ab", "b.ab",
	"a.a.a", "a.a.b", "a.b.a", "a.b.b", "a.b.c", "b.a.a", "b.a.b", "b.b.a", "b.b.b", "b.c.d", "a.a.ab", "a.b.ab", "b.a.ab", "ab.a.b", "ab.c.abc",
}

// lookTree returns a tree in which modules, packages and directories alone of one name lie in several roots.
func lookTree() impl.Tree {
	return impl.Tree{Files: []impl.File{
		{Root: 0, Package: "d", Name: "x"},
		{Root: 1, Package: "d", Name: "x"},
		{Root: 2, Package: "d", Init: true},
		{Root: 0, Name: "m"},
		{Root: 1, Package: "m", Init: true},
		{Root: 1, Package: "m", Name: "k"},
		{Root: 2, Package: "m.k", Name: "y"},
		{Root: 2, Name: "s"},
		{Root: 2, Package: "s", Init: true},
		{Root: 1, Package: "s.t", Init: true},
		{Root: 0, Package: "s", Name: "t"},
		{Root: 2, Package: "s.t.u", Init: true},
	}}
}

// twoPartTree returns a tree of the parts a and b alone, so that names in several roots meet.
func twoPartTree(r *rand.Rand, most int) impl.Tree {
	var t impl.Tree
	packages := []string{"", "", "a", "a", "b", "a.a", "a.b", "b.a", "b.b", "a.b.a"}
	for range most {
		f := impl.File{Root: r.Intn(3), Package: packages[r.Intn(len(packages))], Stamp: r.Intn(100)}
		f.Init = f.Package == "a.b.a" || f.Package != "" && r.Intn(3) == 0
		if !f.Init {
			f.Name = []string{"a", "b"}[r.Intn(2)]
		}
		if !slices.ContainsFunc(t.Files, func(g impl.File) bool { return samePlace(f, g) }) {
			t.Files = append(t.Files, f)
		}
	}
	return t
}

// lookTrees returns the trees that are looked at.
func lookTrees() []impl.Tree {
	trees := append(someTrees()[:45], lookTree())
	r := rand.New(rand.NewSource(5))
	for i := range 150 {
		trees = append(trees, twoPartTree(r, i%13))
	}
	return trees
}

// eachLook calls a function with each of lookTrees by each path.
func eachLook(f func(u impl.Tree, path []int)) {
	for _, u := range lookTrees() {
		for _, path := range allPaths() {
			f(u, path)
		}
	}
}

// eachOtherLook calls a function with trees and paths of which one is not valid.
func eachOtherLook(f func(u impl.Tree, path []int)) {
	for _, u := range otherTrees() {
		f(u, []int{0, 1, 2})
	}
	for _, path := range otherPaths() {
		f(handTree(), path)
		f(lookTree(), path)
	}
}

// oddNames returns texts that are no names.
func oddNames() []string {
	return append(longTexts(), noNames...)
}

// lookedOver is what is found of a name over some roots: the file with the least rank, or all directories.
func lookedOver(t impl.Tree, roots []int, s string) impl.Spec {
	best, least := impl.Spec{File: -1}, math.MaxInt
	dirs := map[int]bool{}
	for i, f := range t.Files {
		at := slices.Index(roots, f.Root)
		if at < 0 {
			continue
		}
		if strings.HasPrefix(f.Package+".", s+".") {
			dirs[f.Root] = true
		}
		if nameAt(f) != s {
			continue
		}
		if f.Init && 2*at < least {
			best, least = impl.Spec{Kind: 2, File: i, Roots: []int{f.Root}}, 2*at
		}
		if !f.Init && 2*at+1 < least {
			best, least = impl.Spec{Kind: 1, File: i}, 2*at+1
		}
	}
	if best.File < 0 && len(dirs) > 0 {
		best.Kind = 3
		best.Roots = slices.DeleteFunc(slices.Clone(roots), func(root int) bool { return !dirs[root] })
	}
	return best
}

// looked is FindSpec of valid arguments.
func looked(t impl.Tree, path []int, s string) impl.Spec {
	above, _, deeper := cutLast(s)
	if deeper {
		path = looked(t, path, above).Roots
	}
	return lookedOver(t, path, s)
}

// cutLast returns what is ahead of the last dot of a name, what is behind it, and whether it has one.
func cutLast(s string) (string, string, bool) {
	i := strings.LastIndex(s, ".")
	return s[:max(0, i)], s[i+1:], i >= 0
}

// sameSpec reports whether specs are equal to the last index.
func sameSpec(a impl.Spec, b impl.Spec) bool {
	return a.Kind == b.Kind && a.File == b.File && slices.Equal(a.Roots, b.Roots)
}

// isNothing reports whether a spec is the one of what is not found.
func isNothing(a impl.Spec) bool {
	return a.Kind == impl.SpNone && a.File == -1 && len(a.Roots) == 0
}

// expectSpec fails if a spec is not as it is wanted.
func expectSpec(t *testing.T, got impl.Spec, want impl.Spec, u impl.Tree, path []int, s string) {
	t.Helper()
	if !sameSpec(got, want) {
		t.Errorf("%q in %v by %v is %v, and not %v", s, u, path, got, want)
	}
}

func TestP18EditsDoNotMoveFiles(t *testing.T) {
	r := rand.New(rand.NewSource(6))
	bodies := someBodies()
	for _, u := range lookTrees() {
		for i, f := range u.Files {
			v, ok := impl.EditFile(u, i, r.Intn(100), bodies[r.Intn(len(bodies))])
			if !ok {
				t.Fatalf("EditFile of %d in %v", i, u)
			}
			for _, path := range allPaths() {
				if !impl.SameFinds(u, v, path) || !impl.SameFinds(v, u, path) {
					t.Errorf("%v looks different by %v after an edit of %d", u, path, i)
				}
				for _, s := range impl.NamesAbove(nameAt(f)) {
					expectSpec(t, impl.FindSpec(v, path, s), impl.FindSpec(u, path, s), v, path, s)
				}
			}
			if w, ok := impl.EditFile(v, i, f.Stamp, f.Body); !ok || !sameTree(w, u) {
				t.Errorf("%v edited back is %v", u, w)
			}
		}
	}
}

func TestP18ImpossibleEditsLookLikeNothing(t *testing.T) {
	for _, i := range append([]int{12}, otherNumbers...) {
		v, ok := impl.EditFile(lookTree(), i, 1, nil)
		if ok || len(v.Files) != 0 || impl.SameFinds(lookTree(), v, []int{0}) || !impl.SameFinds(lookTree(), v, nil) {
			t.Errorf("EditFile of %d is %v", i, v)
		}
	}
	if v, ok := impl.EditFile(lookTree(), 0, 100, nil); ok || len(v.Files) != 0 {
		t.Errorf("EditFile with the stamp 100 is %v", v)
	}
}

func TestP24RootsCanBeLeftOut(t *testing.T) {
	for _, path := range append(allPaths(), []int{}) {
		if !impl.ValidPath(path) {
			t.Fatalf("%v is valid", path)
		}
		for i := range path {
			if rest := slices.Delete(slices.Clone(path), i, i+1); !impl.ValidPath(rest) {
				t.Errorf("%v is not valid, and %v is", rest, path)
			}
		}
	}
	for _, path := range otherPaths() {
		if impl.ValidPath(path) {
			t.Errorf("%v is not valid", brief(path))
		}
	}
}

func TestP24PathsHaveDifferentRoots(t *testing.T) {
	lists := [][]int{nil}
	for len(lists[0]) < 5 {
		var longer [][]int
		for _, list := range lists {
			want := slices.ContainsFunc(allPaths(), func(path []int) bool { return slices.Equal(path, list) })
			if impl.ValidPath(list) != want {
				t.Errorf("ValidPath(%v) is not %v", list, want)
			}
			for root := -1; root <= 3; root++ {
				longer = append(longer, append(slices.Clone(list), root))
			}
		}
		lists = longer
	}
}

func TestP25TheFirstRootWithAFileWins(t *testing.T) {
	eachLook(func(u impl.Tree, path []int) {
		for _, name := range lookNames {
			p, s, _ := cutLast(name)
			spec := impl.FindIn(u, path, p, s)
			expectSpec(t, spec, lookedOver(u, path, name), u, path, name)
			if spec.File < 0 {
				continue
			}
			at := slices.Index(path, u.Files[spec.File].Root)
			expectSpec(t, impl.FindIn(u, path[:at+1], p, s), spec, u, path[:at+1], name)
			if ahead := impl.FindIn(u, path[:at], p, s); ahead.File != -1 || ahead.Kind == impl.SpModule || ahead.Kind == impl.SpPackage {
				t.Errorf("%q is found by %v in %v, and with a file by %v", name, path, u, path[:at])
			}
		}
	})
}

func TestP25FilesHideEachOther(t *testing.T) {
	for _, c := range []struct {
		path []int
		p, s string
		want impl.Spec
	}{
		{[]int{2, 0, 1}, "", "d", impl.Spec{Kind: 2, File: 2, Roots: []int{2}}},
		{[]int{0, 1, 2}, "", "d", impl.Spec{Kind: 2, File: 2, Roots: []int{2}}},
		{[]int{0, 1}, "", "m", impl.Spec{Kind: 1, File: 3}},
		{[]int{2, 1, 0}, "", "m", impl.Spec{Kind: 2, File: 4, Roots: []int{1}}},
		{[]int{2, 0}, "", "m", impl.Spec{Kind: 1, File: 3}},
		{[]int{2}, "", "s", impl.Spec{Kind: 2, File: 8, Roots: []int{2}}},
		{[]int{0, 1, 2}, "", "s", impl.Spec{Kind: 2, File: 8, Roots: []int{2}}},
		{[]int{0, 1}, "s", "t", impl.Spec{Kind: 1, File: 10}},
		{[]int{2, 1, 0}, "s", "t", impl.Spec{Kind: 2, File: 9, Roots: []int{1}}},
		{[]int{2, 1}, "m", "k", impl.Spec{Kind: 1, File: 5}},
		{[]int{0, 2}, "s.t", "u", impl.Spec{Kind: 2, File: 11, Roots: []int{2}}},
		{[]int{0, 1}, "s.t", "u", impl.Spec{File: -1}},
		{[]int{1, 0}, "d", "x", impl.Spec{Kind: 1, File: 1}},
		{nil, "", "d", impl.Spec{File: -1}},
	} {
		expectSpec(t, impl.FindIn(lookTree(), c.path, c.p, c.s), c.want, lookTree(), c.path, c.p+"."+c.s)
	}
}

func TestP25OtherArgumentsFindNothing(t *testing.T) {
	path := []int{0, 1, 2}
	for _, s := range append(longTexts(), noParts...) {
		for _, p := range []string{"", "a", "a.b"} {
			if !isNothing(impl.FindIn(handTree(), path, p, s)) {
				t.Errorf("FindIn of %.20q in %q", s, p)
			}
		}
	}
	for _, p := range append(oddNames(), "a.b.c", "ab.c.abc") {
		for _, s := range []string{"a", "b", "c", "d"} {
			if p != "" && !isNothing(impl.FindIn(handTree(), path, p, s)) {
				t.Errorf("FindIn of %q in %.20q", s, p)
			}
		}
	}
	eachOtherLook(func(u impl.Tree, path []int) {
		for _, s := range []string{"a", "b", "c", "d", "m", "p"} {
			if !isNothing(impl.FindIn(u, path, "", s)) || !isNothing(impl.FindIn(u, path, "a", s)) || !isNothing(impl.FindIn(u, path, "b", s)) {
				t.Errorf("FindIn of %q in %v by %v", s, brief(u), brief(path))
			}
		}
	})
}

func TestP26DirectoriesAloneAreAllTogether(t *testing.T) {
	eachLook(func(u impl.Tree, path []int) {
		for _, name := range lookNames {
			p, s, _ := cutLast(name)
			var dirs []int
			file := false
			for _, root := range path {
				if impl.HasDir(u, root, name) {
					dirs = append(dirs, root)
				}
				file = file || slices.ContainsFunc(u.Files, func(f impl.File) bool { return f.Root == root && nameAt(f) == name })
			}
			spec := impl.FindIn(u, path, p, s)
			if space := len(dirs) > 0 && !file; space != (spec.Kind == impl.SpSpace) || space && (spec.File != -1 || !slices.Equal(spec.Roots, dirs)) {
				t.Errorf("%q in %v by %v is %v, with the directories %v", name, u, path, spec, dirs)
			}
		}
	})
}

func TestP26DirectoriesOfSeveralRoots(t *testing.T) {
	u := impl.Tree{Files: []impl.File{
		{Root: 0, Package: "a.b", Name: "c"}, {Root: 1, Package: "ab", Name: "c"}, {Root: 2, Package: "a.b.c", Init: true}, {Root: 1, Package: "a", Name: "q"},
	}}
	for _, c := range []struct {
		path  []int
		s     string
		roots []int
	}{
		{[]int{0, 1, 2}, "a", []int{0, 1, 2}}, {[]int{2, 0, 1}, "a", []int{2, 0, 1}}, {[]int{1, 0}, "a", []int{1, 0}}, {[]int{1}, "a", []int{1}},
		{[]int{0, 1, 2}, "a.b", []int{0, 2}}, {[]int{2, 1, 0}, "a.b", []int{2, 0}}, {[]int{1, 2}, "a.b", []int{2}}, {[]int{0, 1, 2}, "ab", []int{1}},
	} {
		expectSpec(t, impl.FindSpec(u, c.path, c.s), impl.Spec{Kind: 3, File: -1, Roots: c.roots}, u, c.path, c.s)
	}
	for s, path := range map[string][]int{"a": nil, "a.b": {1}, "ab": {0, 2}, "a.q.c": {0, 1, 2}} {
		expectSpec(t, impl.FindSpec(u, path, s), impl.Spec{File: -1}, u, path, s)
	}
	// A file in the last root is more than directories ahead of it, and the roots of these are not looked at then.
	v, _ := impl.AddFile(u, impl.File{Root: 2, Package: "a", Init: true})
	expectSpec(t, impl.FindSpec(v, []int{0, 1, 2}, "a"), impl.Spec{Kind: 2, File: 4, Roots: []int{2}}, v, []int{0, 1, 2}, "a")
	expectSpec(t, impl.FindSpec(v, []int{0, 1, 2}, "a.b"), impl.Spec{Kind: 3, File: -1, Roots: []int{2}}, v, []int{0, 1, 2}, "a.b")
	w, _ := impl.AddFile(u, impl.File{Root: 2, Name: "a"})
	expectSpec(t, impl.FindSpec(w, []int{0, 1, 2}, "a"), impl.Spec{Kind: 1, File: 4}, w, []int{0, 1, 2}, "a")
	expectSpec(t, impl.FindSpec(w, []int{0, 1, 2}, "a.b"), impl.Spec{File: -1}, w, []int{0, 1, 2}, "a.b")
}

func TestP27NamesAreFoundPartByPart(t *testing.T) {
	eachLook(func(u impl.Tree, path []int) {
		for _, name := range lookNames {
			spec := impl.FindSpec(u, path, name)
			expectSpec(t, spec, looked(u, path, name), u, path, name)
			p, s, deeper := cutLast(name)
			roots := path
			if deeper {
				roots = impl.FindSpec(u, path, p).Roots
			}
			expectSpec(t, spec, impl.FindIn(u, roots, p, s), u, path, name)
		}
	})
}

func TestP27PackagesHideFilesOfOtherRoots(t *testing.T) {
	for _, c := range []struct {
		path []int
		s    string
		want impl.Spec
	}{
		{[]int{0, 1, 2}, "d.x", impl.Spec{File: -1}},
		{[]int{0, 1}, "d.x", impl.Spec{Kind: 1, File: 0}},
		{[]int{1, 0}, "d.x", impl.Spec{Kind: 1, File: 1}},
		{[]int{0, 1, 2}, "m.k", impl.Spec{File: -1}},
		{[]int{1, 0, 2}, "m.k", impl.Spec{Kind: 1, File: 5}},
		{[]int{1, 0, 2}, "m.k.y", impl.Spec{File: -1}},
		{[]int{2}, "m.k.y", impl.Spec{Kind: 1, File: 6}},
		{[]int{2, 1}, "m.k.y", impl.Spec{File: -1}},
		{[]int{0, 1, 2}, "s.t", impl.Spec{Kind: 3, File: -1, Roots: []int{2}}},
		{[]int{0, 1, 2}, "s.t.u", impl.Spec{Kind: 2, File: 11, Roots: []int{2}}},
		{[]int{0, 1}, "s.t", impl.Spec{Kind: 1, File: 10}},
		{[]int{1, 0}, "s.t", impl.Spec{Kind: 2, File: 9, Roots: []int{1}}},
		{[]int{1, 0}, "s.t.u", impl.Spec{File: -1}},
	} {
		expectSpec(t, impl.FindSpec(lookTree(), c.path, c.s), c.want, lookTree(), c.path, c.s)
	}
}

func TestP27OtherArgumentsFindNothing(t *testing.T) {
	for _, s := range oddNames() {
		if !isNothing(impl.FindSpec(handTree(), []int{0, 1, 2}, s)) || !isNothing(impl.FindSpec(impl.Tree{}, nil, s)) {
			t.Errorf("FindSpec of %.20q", s)
		}
	}
	eachOtherLook(func(u impl.Tree, path []int) {
		for _, s := range []string{"a", "b", "c", "d", "m", "p", "zzz", "a.b", "b.c", "p.a", "d.x"} {
			if !isNothing(impl.FindSpec(u, path, s)) {
				t.Errorf("FindSpec of %q in %v by %v", s, brief(u), brief(path))
			}
		}
	})
}

func TestP28FilesAreOfTheirModules(t *testing.T) {
	eachLook(func(u impl.Tree, path []int) {
		for _, s := range lookNames {
			spec := impl.FindSpec(u, path, s)
			if withFile := spec.Kind == impl.SpModule || spec.Kind == impl.SpPackage; withFile != (spec.File != -1) {
				t.Errorf("%q in %v by %v is %v", s, u, path, spec)
			}
			if spec.File == -1 {
				continue
			}
			f := u.Files[spec.File]
			if impl.ModuleOf(f) != s || !slices.Contains(path, f.Root) || f.Init != (spec.Kind == impl.SpPackage) {
				t.Errorf("%q in %v by %v has the file %v", s, u, path, f)
			}
		}
	})
}

func TestP29WhatIsFoundIsFoundWithAllAboveIt(t *testing.T) {
	eachLook(func(u impl.Tree, path []int) {
		for _, s := range lookNames {
			can := impl.CanFind(u, path, s)
			if can != (looked(u, path, s).Kind != 0) {
				t.Errorf("CanFind of %q in %v by %v is %v", s, u, path, can)
			}
			if !can {
				continue
			}
			for _, above := range impl.NamesAbove(s) {
				if !impl.CanFind(u, path, above) || above != s && !impl.IsPackage(u, path, above) {
					t.Errorf("%q is found in %v by %v, and %q is no package", s, u, path, above)
				}
			}
		}
	})
	for _, s := range oddNames() {
		if impl.CanFind(handTree(), []int{0, 1, 2}, s) {
			t.Errorf("CanFind of %.20q", s)
		}
	}
	eachOtherLook(func(u impl.Tree, path []int) {
		if impl.CanFind(u, path, "a") || impl.CanFind(u, path, "b") || impl.CanFind(u, path, "d.x") || impl.CanFind(u, path, "p.a") {
			t.Errorf("CanFind in %v by %v", brief(u), brief(path))
		}
	})
}

func TestP30FoundNamesAreFound(t *testing.T) {
	eachLook(func(u impl.Tree, path []int) {
		set := map[string]bool{}
		for _, s := range append(impl.ModulesOf(u), impl.PackagesOf(u)...) {
			if looked(u, path, s).Kind != 0 {
				set[s] = true
			}
		}
		names := impl.FoundNames(u, path)
		if !slices.Equal(names, sortedOnce(set)) {
			t.Errorf("FoundNames of %v by %v is %q", u, path, names)
		}
		for _, s := range append(slices.Clone(lookNames), names...) {
			if slices.Contains(names, s) != impl.CanFind(u, path, s) {
				t.Errorf("FoundNames of %v by %v is %q, and %q is found: %v", u, path, names, s, impl.CanFind(u, path, s))
			}
		}
	})
	eachOtherLook(func(u impl.Tree, path []int) {
		if names := impl.FoundNames(u, path); len(names) != 0 {
			t.Errorf("FoundNames of %v by %v is %q", brief(u), brief(path), names)
		}
	})
}

func TestP30FoundNamesAreTold(t *testing.T) {
	for _, c := range []struct {
		path []int
		want []string
	}{
		{nil, nil},
		{[]int{0}, []string{"d", "d.x", "m", "s", "s.t"}},
		{[]int{1}, []string{"d", "d.x", "m", "m.k", "s", "s.t"}},
		{[]int{2}, []string{"d", "m", "m.k", "m.k.y", "s", "s.t", "s.t.u"}},
		{[]int{0, 1, 2}, []string{"d", "m", "s", "s.t", "s.t.u"}},
		{[]int{1, 0}, []string{"d", "d.x", "m", "m.k", "s", "s.t"}},
	} {
		if names := impl.FoundNames(lookTree(), c.path); !slices.Equal(names, c.want) {
			t.Errorf("FoundNames by %v is %q", c.path, names)
		}
	}
}

func TestP31EachNameFindsOneFile(t *testing.T) {
	eachLook(func(u impl.Tree, path []int) {
		hidden := impl.HiddenFiles(u, path)
		if !slices.IsSorted(hidden) {
			t.Errorf("%v does not ascend", hidden)
		}
		finder := map[string]int{}
		for i, f := range u.Files {
			s := nameAt(f)
			want := looked(u, path, s).File != i
			if slices.Contains(hidden, i) != want {
				t.Errorf("HiddenFiles of %v by %v is %v, and %d is hidden: %v", u, path, hidden, i, want)
			}
			if slices.Contains(hidden, i) {
				continue
			}
			if j, twice := finder[s]; twice || impl.FindSpec(u, path, s).File != i {
				t.Errorf("%q in %v by %v has the files %d and %d", s, u, path, i, j)
			}
			finder[s] = i
		}
		if len(finder)+len(hidden) != len(u.Files) {
			t.Errorf("HiddenFiles of %v by %v is %v", u, path, hidden)
		}
	})
	eachOtherLook(func(u impl.Tree, path []int) {
		if hidden := impl.HiddenFiles(u, path); len(hidden) != 0 {
			t.Errorf("HiddenFiles of %v by %v is %v", brief(u), brief(path), hidden)
		}
	})
}

func TestP31HiddenFilesAreTold(t *testing.T) {
	for _, c := range []struct {
		path []int
		want []int
	}{
		{nil, []int{0, 1, 2, 3, 4, 5, 6, 7, 8, 9, 10, 11}},
		{[]int{0, 1, 2}, []int{0, 1, 4, 5, 6, 7, 9, 10}},
		{[]int{1, 0}, []int{0, 2, 3, 6, 7, 8, 10, 11}},
		{[]int{2}, []int{0, 1, 3, 4, 5, 7, 9, 10}},
	} {
		if hidden := impl.HiddenFiles(lookTree(), c.path); !slices.Equal(hidden, c.want) {
			t.Errorf("HiddenFiles by %v is %v", c.path, hidden)
		}
	}
	if hidden := impl.HiddenFiles(impl.Tree{}, []int{0, 1, 2}); len(hidden) != 0 {
		t.Errorf("HiddenFiles without files is %v", hidden)
	}
}

func TestP32HiddenFilesDoNotMatter(t *testing.T) {
	gone := 0
	eachLook(func(u impl.Tree, path []int) {
		hidden := impl.HiddenFiles(u, path)
		if len(hidden) == 0 {
			return
		}
		f := u.Files[hidden[0]]
		v, ok := impl.RemoveFile(u, hidden[0])
		if !ok {
			t.Fatalf("RemoveFile of %v from %v", hidden, u)
		}
		if !impl.HasDir(v, f.Root, f.Package) {
			return
		}
		gone++
		if !impl.SameFinds(u, v, path) || !slices.Equal(impl.FoundNames(u, path), impl.FoundNames(v, path)) {
			t.Errorf("%v looks different by %v without %v", u, path, f)
		}
	})
	if gone < 500 {
		t.Errorf("only %d files were removed", gone)
	}
}

func TestP32DirectoriesThatGoDoMatter(t *testing.T) {
	u := impl.Tree{Files: []impl.File{{Root: 0, Package: "d", Name: "f"}, {Root: 1, Package: "d", Name: "f"}}}
	v, _ := impl.RemoveFile(u, 1)
	if hidden := impl.HiddenFiles(u, []int{0, 1}); !slices.Equal(hidden, []int{1}) {
		t.Errorf("HiddenFiles is %v", hidden)
	}
	if impl.SameFinds(u, v, []int{0, 1}) || !slices.Equal(impl.FoundNames(u, []int{0, 1}), impl.FoundNames(v, []int{0, 1})) {
		t.Error("without its file, the directory is not among the roots")
	}
	w, _ := impl.AddFile(u, impl.File{Root: 1, Package: "d.e", Name: "f"})
	x, _ := impl.RemoveFile(w, 1)
	if !impl.SameFinds(w, x, []int{0, 1}) {
		t.Error("with another file below it, the directory stays")
	}
}

func TestP33HiddenFilesAreHiddenForAReason(t *testing.T) {
	eachLook(func(u impl.Tree, path []int) {
		hidden := impl.HiddenFiles(u, path)
		for i, f := range u.Files {
			why, by := impl.WhoHides(u, path, i)
			file := looked(u, path, nameAt(f)).File
			want, wantBy := impl.WhAbove, -1
			if file == i {
				want = impl.WhNone
			} else if !slices.Contains(path, f.Root) {
				want = impl.WhRoot
			} else if file != -1 {
				want, wantBy = impl.WhOther, file
			}
			if why != want || by != wantBy || (why == impl.WhNone) == slices.Contains(hidden, i) {
				t.Errorf("WhoHides of %d in %v by %v is %d, %d", i, u, path, why, by)
			}
			if (by != -1) != (why == impl.WhOther) || by != -1 && impl.ModuleOf(u.Files[by]) != impl.ModuleOf(f) {
				t.Errorf("WhoHides of %d in %v by %v is %d, %d", i, u, path, why, by)
			}
		}
	})
}

func TestP33ReasonsAreTold(t *testing.T) {
	for _, c := range []struct {
		path []int
		i    int
		why  int
		by   int
	}{
		{[]int{0, 1, 2}, 2, 0, -1}, {[]int{0, 1, 2}, 0, 3, -1}, {[]int{0, 1}, 0, 0, -1}, {[]int{0, 1}, 1, 2, 0}, {[]int{1, 0}, 0, 2, 1},
		// The root of a file tells more than another file, which is found too.
		{[]int{0}, 1, 1, -1}, {[]int{0}, 4, 1, -1}, {nil, 3, 1, -1},
		{[]int{0, 1}, 4, 2, 3}, {[]int{0, 1}, 5, 3, -1}, {[]int{1, 2}, 6, 3, -1}, {[]int{2}, 7, 2, 8}, {[]int{1, 2}, 9, 3, -1}, {[]int{0, 1}, 9, 2, 10},
		{[]int{2, 1}, 11, 0, -1}, {[]int{1, 2}, 11, 0, -1},
	} {
		if why, by := impl.WhoHides(lookTree(), c.path, c.i); why != c.why || by != c.by {
			t.Errorf("WhoHides of %d by %v is %d, %d", c.i, c.path, why, by)
		}
	}
}

func TestP33OtherFilesHaveNoReason(t *testing.T) {
	for _, i := range append([]int{10, 11}, otherNumbers...) {
		for _, path := range allPaths() {
			if why, by := impl.WhoHides(handTree(), path, i); why != -1 || by != -1 {
				t.Errorf("WhoHides of %d is %d, %d", i, why, by)
			}
		}
	}
	eachOtherLook(func(u impl.Tree, path []int) {
		for i := range min(3, len(u.Files)) {
			if why, by := impl.WhoHides(u, path, i); why != -1 || by != -1 {
				t.Errorf("WhoHides of %d in %v by %v is %d, %d", i, brief(u), brief(path), why, by)
			}
		}
	})
	if why, by := impl.WhoHides(impl.Tree{}, []int{0}, 0); why != -1 || by != -1 {
		t.Errorf("WhoHides without files is %d, %d", why, by)
	}
}

func TestP34PackagesHaveRoots(t *testing.T) {
	eachLook(func(u impl.Tree, path []int) {
		for _, s := range lookNames {
			is := impl.IsPackage(u, path, s)
			if kind := looked(u, path, s).Kind; is != (kind == 2 || kind == 3) || is != (len(impl.FindSpec(u, path, s).Roots) > 0) {
				t.Errorf("IsPackage of %q in %v by %v is %v", s, u, path, is)
			}
		}
	})
	for _, s := range oddNames() {
		if impl.IsPackage(handTree(), []int{0, 1, 2}, s) {
			t.Errorf("IsPackage of %.20q", s)
		}
	}
	eachOtherLook(func(u impl.Tree, path []int) {
		if impl.IsPackage(u, path, "a") || impl.IsPackage(u, path, "b") || impl.IsPackage(u, path, "d") || impl.IsPackage(u, path, "p") {
			t.Errorf("IsPackage in %v by %v", brief(u), brief(path))
		}
	})
}

func TestP35KidsAreFoundInPackages(t *testing.T) {
	eachLook(func(u impl.Tree, path []int) {
		names := impl.FoundNames(u, path)
		for _, p := range append([]string{""}, lookNames...) {
			set := map[string]bool{}
			for _, s := range names {
				if impl.ParentOf(s) == p {
					set[impl.LastOf(s)] = true
				}
			}
			kids := impl.KidsOf(u, path, p)
			if !slices.Equal(kids, sortedOnce(set)) {
				t.Errorf("KidsOf %q in %v by %v is %q", p, u, path, kids)
			}
			if p != "" && !impl.IsPackage(u, path, p) && len(kids) != 0 {
				t.Errorf("%q in %v by %v is no package, and has %q", p, u, path, kids)
			}
		}
	})
}

func TestP35KidsAreTold(t *testing.T) {
	for _, c := range []struct {
		path []int
		p    string
		want []string
	}{
		{[]int{0, 1, 2}, "", []string{"d", "m", "s"}}, {[]int{0, 1, 2}, "d", nil}, {[]int{0, 1}, "d", []string{"x"}}, {[]int{0, 1, 2}, "m", nil},
		{[]int{2, 0}, "m", nil}, {[]int{1}, "m", []string{"k"}}, {[]int{2}, "m.k", []string{"y"}}, {[]int{0, 1, 2}, "s.t", []string{"u"}}, {[]int{0, 1, 2}, "s.t.u", nil}, {nil, "", nil},
	} {
		if kids := impl.KidsOf(lookTree(), c.path, c.p); !slices.Equal(kids, c.want) {
			t.Errorf("KidsOf %q by %v is %q", c.p, c.path, kids)
		}
	}
	if kids := impl.KidsOf(handTree(), []int{0, 1, 2}, ""); !slices.Equal(kids, []string{"a", "ab", "b"}) {
		t.Errorf("KidsOf is %q", kids)
	}
}

func TestP35OtherPackagesHaveNoKids(t *testing.T) {
	for _, p := range oddNames() {
		if p != "" && len(impl.KidsOf(handTree(), []int{0, 1, 2}, p)) != 0 {
			t.Errorf("KidsOf %.20q", p)
		}
	}
	eachOtherLook(func(u impl.Tree, path []int) {
		for _, p := range []string{"", "a", "b", "d", "p"} {
			if kids := impl.KidsOf(u, path, p); len(kids) != 0 {
				t.Errorf("KidsOf %q in %v by %v is %q", p, brief(u), brief(path), kids)
			}
		}
	})
}

// looksSame is SameFinds of valid arguments, done with texts that tell all that is found.
func looksSame(t impl.Tree, u impl.Tree, path []int) bool {
	return slices.Equal(tellsOf(t, path), tellsOf(u, path))
}

// tellsOf returns a text for each name that is found: what is found, and the place of its file.
func tellsOf(t impl.Tree, path []int) []string {
	set := map[string]bool{}
	for _, f := range t.Files {
		for _, s := range impl.NamesAbove(nameAt(f)) {
			spec := looked(t, path, s)
			if spec.Kind == 0 {
				continue
			}
			file := impl.File{}
			if spec.File != -1 {
				file = t.Files[spec.File]
			}
			spec.File, file.Stamp, file.Body = 0, 0, nil
			set[s+brief(spec)+brief(file)] = true
		}
	}
	return sortedOnce(set)
}

// changedTrees returns trees that differ from a tree in a file, or in the order of files.
func changedTrees(t impl.Tree, r *rand.Rand) []impl.Tree {
	turned := copyOfTree(t)
	slices.Reverse(turned.Files)
	trees := []impl.Tree{t, turned}
	for i := range t.Files {
		gone := copyOfTree(t)
		gone.Files = slices.Delete(gone.Files, i, i+1)
		moved := copyOfTree(t)
		moved.Files[i].Root = r.Intn(3)
		trees = append(trees, gone, moved)
	}
	return slices.DeleteFunc(trees, func(u impl.Tree) bool { return !impl.ValidTree(u) })
}

func TestP36LooksAreCompared(t *testing.T) {
	r := rand.New(rand.NewSource(7))
	counts := map[bool]int{}
	for _, u := range lookTrees() {
		for _, v := range changedTrees(u, r) {
			path := allPaths()[r.Intn(len(allPaths()))]
			same := impl.SameFinds(u, v, path)
			counts[same]++
			if same != looksSame(u, v, path) || same != impl.SameFinds(v, u, path) {
				t.Errorf("SameFinds of %v and %v by %v is %v", u, v, path, same)
			}
			if same && !slices.Equal(impl.FoundNames(u, path), impl.FoundNames(v, path)) {
				t.Errorf("%v and %v look the same by %v, and have other names", u, v, path)
			}
		}
		for _, path := range allPaths() {
			if !impl.SameFinds(u, u, path) {
				t.Errorf("%v looks different from itself by %v", u, path)
			}
		}
	}
	if counts[true] < 200 || counts[false] < 200 {
		t.Errorf("the trees look the same too often, or too rarely: %v", counts)
	}
}

func TestP36WhatIsComparedIsTold(t *testing.T) {
	tree := func(files ...impl.File) impl.Tree { return impl.Tree{Files: files} }
	module, inside := impl.File{Name: "a"}, impl.File{Package: "a", Name: "b"}
	module1, inside1 := impl.File{Root: 1, Name: "a"}, impl.File{Root: 1, Package: "a", Name: "b"}
	pack, pack1 := impl.File{Package: "a", Init: true}, impl.File{Root: 1, Package: "a", Init: true}
	deep1 := impl.File{Root: 1, Package: "a.c", Init: true}
	for i, c := range []struct {
		u, v impl.Tree
		path []int
		want bool
	}{
		{tree(), tree(), nil, true}, {tree(), tree(module), []int{1, 2}, true}, {tree(), tree(module), []int{1, 0}, false}, {tree(), tree(module), nil, true},
		{tree(module), tree(module1), []int{0, 1}, false}, {tree(module), tree(module, module1), []int{0, 1}, true}, {tree(module), tree(module, module1), []int{1, 0}, false},
		{tree(module), tree(pack), []int{0}, false}, {tree(pack), tree(pack, module), []int{0}, true}, {tree(module, pack), tree(pack, module), []int{0}, true},
		{tree(pack), tree(pack1), []int{0, 1}, false}, {tree(pack, inside), tree(pack, inside, inside1), []int{0, 1}, true}, {tree(inside), tree(inside, inside1), []int{0, 1}, false},
		{tree(inside), tree(inside, inside1), []int{0}, true}, {tree(inside, inside1), tree(inside1, inside), []int{0, 1}, true}, {tree(inside), tree(inside1), []int{0, 1}, false},
		{tree(pack, inside), tree(inside, deep1), []int{0, 1}, false}, {tree(inside, deep1), tree(inside, deep1, inside1), []int{1, 0}, false}, {tree(inside, deep1), tree(inside, deep1, inside1), []int{0, 1}, true},
		{tree(impl.File{Name: "a", Stamp: 1, Body: someStmts[:1]}), tree(impl.File{Name: "a", Stamp: 2, Body: someStmts[1:3]}), []int{0}, true},
	} {
		if impl.SameFinds(c.u, c.v, c.path) != c.want || impl.SameFinds(c.v, c.u, c.path) != c.want {
			t.Errorf("SameFinds of the trees %d is not %v", i, c.want)
		}
	}
}

func TestP36OtherTreesDoNotLookTheSame(t *testing.T) {
	for _, u := range otherTrees() {
		if impl.SameFinds(u, u, []int{0}) || impl.SameFinds(u, u, nil) || impl.SameFinds(u, impl.Tree{}, nil) || impl.SameFinds(impl.Tree{}, u, nil) {
			t.Errorf("SameFinds of %v", brief(u))
		}
	}
	for _, path := range otherPaths() {
		if impl.SameFinds(handTree(), handTree(), path) || impl.SameFinds(impl.Tree{}, impl.Tree{}, path) {
			t.Errorf("SameFinds by %v", brief(path))
		}
	}
}

// TestFindResultsAreFresh checks that what is found shares no memory with arguments or other results, and that these stay as they are.
func TestFindResultsAreFresh(t *testing.T) {
	roots := []int{0, 1, 2, 7, 8}
	path := roots[:3]
	u := impl.Tree{Files: []impl.File{{Root: 0, Package: "a", Name: "b"}, {Root: 1, Package: "a.c", Name: "d"}, {Root: 2, Package: "a.c", Name: "e"}, {Root: 1, Package: "p", Init: true}, {Root: 2, Name: "p"}}}
	before := copyOfTree(u)
	for i, numbers := range []func() []int{
		func() []int { return impl.FindIn(u, path, "", "a").Roots },
		func() []int { return impl.FindIn(u, path, "a", "c").Roots },
		func() []int { return impl.FindSpec(u, path, "a").Roots },
		func() []int { return impl.FindSpec(u, path, "a.c").Roots },
		func() []int { return impl.FindSpec(u, path, "p").Roots },
		func() []int { return impl.HiddenFiles(u, path) },
	} {
		first, want := numbers(), slices.Clone(numbers())
		for j := range first[:cap(first)] {
			first[:cap(first)][j] = -9
		}
		if second := numbers(); len(want) == 0 || !slices.Equal(second, want) || !slices.Equal(roots, []int{0, 1, 2, 7, 8}) {
			t.Errorf("the list %d is shared: %v, and not %v", i, second, want)
		}
	}
	for i, texts := range []func() []string{
		func() []string { return impl.FoundNames(u, path) },
		func() []string { return impl.KidsOf(u, path, "") },
	} {
		first, want := texts(), slices.Clone(texts())
		for j := range first {
			first[j] = "changed"
		}
		if second := texts(); len(want) == 0 || !slices.Equal(second, want) {
			t.Errorf("the list of texts %d is shared: %q, and not %q", i, second, want)
		}
	}
	impl.SameFinds(u, u, path)
	impl.WhoHides(u, path, 4)
	if !sameTree(u, before) || !slices.Equal(roots, []int{0, 1, 2, 7, 8}) {
		t.Error("the arguments are changed")
	}
}

func TestFindConstants(t *testing.T) {
	for i, c := range [][2]int{
		{impl.SpNone, 0}, {impl.SpModule, 1}, {impl.SpPackage, 2}, {impl.SpSpace, 3}, {impl.WhNone, 0}, {impl.WhRoot, 1}, {impl.WhOther, 2}, {impl.WhAbove, 3},
	} {
		if c[0] != c[1] {
			t.Errorf("the constant %d is %d, and not %d", i, c[0], c[1])
		}
	}
}

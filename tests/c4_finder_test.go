package tests

import (
	"math"
	"math/rand"
	"slices"
	"strings"
	"testing"

	"loop.example/importhouse/impl"
)

// dirsOnTheWay returns the packages of the directories that a file in a package changes, the shortest first.
func dirsOnTheWay(p string) []string {
	way := []string{""}
	for i, letter := range p + "." {
		if letter == '.' && p != "" {
			way = append(way, p[:i])
		}
	}
	return way
}

// dirIndex returns the index of a directory, -1 if it is not there.
func dirIndex(dirs []impl.Dir, root int, p string) int {
	return slices.IndexFunc(dirs, func(dir impl.Dir) bool { return dir.Root == root && dir.Package == p })
}

// stampIn is StampOf of valid arguments.
func stampIn(d impl.Disk, root int, p string) int {
	if i := dirIndex(d.Dirs, root, p); i >= 0 {
		return d.Dirs[i].Stamp
	}
	return 0
}

func sameDir(a impl.Dir, b impl.Dir) bool {
	return a.Root == b.Root && a.Package == b.Package && a.Stamp == b.Stamp && slices.Equal(a.Names, b.Names)
}

func sameDirs(a []impl.Dir, b []impl.Dir) bool {
	return slices.EqualFunc(a, b, sameDir)
}

func sameDisk(a impl.Disk, b impl.Disk) bool {
	return a.Clock == b.Clock && sameDirs(a.Dirs, b.Dirs) && sameTree(a.Tree, b.Tree)
}

func sameFinder(a impl.Finder, b impl.Finder) bool {
	return a.Fills == b.Fills && a.Hits == b.Hits && sameDirs(a.Dirs, b.Dirs)
}

// copyOfDirs returns directories that share no memory with others.
func copyOfDirs(dirs []impl.Dir) []impl.Dir {
	copies := slices.Clone(dirs)
	for i := range copies {
		copies[i].Names = slices.Clone(copies[i].Names)
	}
	return copies
}

// isZeroDisk reports whether a disk is the zero value, where nil lists are not told from empty ones.
func isZeroDisk(d impl.Disk) bool {
	return d.Clock == 0 && len(d.Dirs) == 0 && len(d.Tree.Files) == 0
}

// isZeroFinder reports whether a finder is the zero value, where nil lists are not told from empty ones.
func isZeroFinder(f impl.Finder) bool {
	return f.Fills == 0 && f.Hits == 0 && len(f.Dirs) == 0
}

// stamped is DiskAdd and DiskRemove of arguments that are valid but for the ticks and the number of directories:
// the disk with another tree, for a file in a package of a root.
func stamped(d impl.Disk, t impl.Tree, root int, p string, ticks int) (impl.Disk, bool) {
	if ticks < 0 || ticks > 200-d.Clock {
		return impl.Disk{}, false
	}
	after := impl.Disk{Tree: t, Clock: d.Clock + ticks, Dirs: slices.Clone(d.Dirs)}
	for _, s := range dirsOnTheWay(p) {
		i := dirIndex(after.Dirs, root, s)
		if i < 0 {
			i = len(after.Dirs)
			after.Dirs = append(after.Dirs, impl.Dir{Root: root, Package: s})
		}
		after.Dirs[i].Stamp = after.Clock
	}
	if len(after.Dirs) > 20 {
		return impl.Disk{}, false
	}
	return after, true
}

// someDirs returns so many directories, those of all roots of a package one after the other.
func someDirs(most int, stamp int) []impl.Dir {
	var dirs []impl.Dir
	for i := range most {
		dirs = append(dirs, impl.Dir{Root: i % 3, Package: []string{"", "a", "b", "p", "q", "r", "a.a", "a.b", "zzz.zzz.zzz"}[i/3], Stamp: stamp})
	}
	return dirs
}

// handDisk returns a disk of which some directories are known, and some that are known have no files.
func handDisk() impl.Disk {
	return impl.Disk{Tree: handTree(), Clock: 7, Dirs: []impl.Dir{
		{Root: 0, Package: "a", Stamp: 3}, {Root: 0, Package: "", Stamp: 7}, {Root: 2, Package: "b.c", Stamp: 1}, {Root: 2, Package: "a"}, {Root: 1, Package: "q.r.s", Stamp: 5},
	}}
}

// randomChange returns a disk after a file was added or removed, or the disk itself if that is not possible.
func randomChange(d impl.Disk, r *rand.Rand, ticks int) impl.Disk {
	after, ok := impl.DiskAdd(d, randomFile(r), ticks)
	if len(d.Tree.Files) > 0 && (!ok || r.Intn(5) < 2) {
		after, ok = impl.DiskRemove(d, r.Intn(len(d.Tree.Files)), ticks)
	}
	if !ok {
		return d
	}
	return after
}

// someDisks returns valid disks: without anything, made by hand, full ones, and those of some histories of changes.
func someDisks() []impl.Disk {
	disks := []impl.Disk{{}, {Dirs: []impl.Dir{}}, handDisk(), {Tree: lookTree(), Clock: 200, Dirs: someDirs(20, 200)}, {Tree: fullTree(), Clock: 199, Dirs: someDirs(19, 1)}}
	disks = append(disks, impl.Disk{Clock: 1, Dirs: []impl.Dir{{Root: 1, Package: "a", Stamp: 1, Names: []string{}}}})
	for seed := range 8 {
		r := rand.New(rand.NewSource(int64(seed)))
		d := impl.Disk{}
		for range 30 {
			d = randomChange(d, r, r.Intn(1+seed))
			disks = append(disks, d)
		}
	}
	return disks
}

// otherDirs returns directories that are not valid, neither those of a disk with the clock 9 nor those of a finder.
func otherDirs() [][]impl.Dir {
	lists := [][]impl.Dir{someDirs(21, 0), make([]impl.Dir, 1000000), make([]impl.Dir, 2), {{Package: "a", Stamp: 1}, {}, {Package: "a", Stamp: 2}}, {{Root: 3}}, {{Stamp: 201}}, {{Names: make([]string, 13)}}}
	for _, n := range otherNumbers {
		lists = append(lists, []impl.Dir{{Root: n}}, []impl.Dir{{Package: "a"}, {Root: n}})
		if n != 100 {
			lists = append(lists, []impl.Dir{{Stamp: n}}, []impl.Dir{{Root: 1, Package: "a.b", Stamp: n}, {}})
		}
	}
	for _, s := range oddNames() {
		if s != "" {
			lists = append(lists, []impl.Dir{{Package: s}}, []impl.Dir{{}, {Root: 2, Package: s}})
		}
	}
	return lists
}

// otherDisks returns disks that are not valid.
func otherDisks() []impl.Disk {
	disks := []impl.Disk{
		{Clock: 201}, {Clock: -1}, {Clock: -1, Dirs: []impl.Dir{{Stamp: -1}}}, {Clock: 201, Dirs: []impl.Dir{{Stamp: 201}}}, {Clock: math.MaxInt}, {Clock: math.MinInt},
		{Dirs: []impl.Dir{{Stamp: 1}}}, {Clock: 9, Dirs: []impl.Dir{{Stamp: 9}, {Root: 1, Stamp: 10}}}, {Clock: 9, Dirs: []impl.Dir{{Names: []string{"a"}}}}, {Dirs: []impl.Dir{{Names: []string{""}}}},
	}
	for _, dirs := range otherDirs() {
		disks = append(disks, impl.Disk{Clock: 9, Dirs: dirs})
	}
	for _, u := range otherTrees() {
		disks = append(disks, impl.Disk{Tree: u, Clock: 9})
	}
	return disks
}

// otherFinders returns finders that are not valid.
func otherFinders() []impl.Finder {
	finders := []impl.Finder{{Fills: 1001}, {Hits: 1001}}
	for _, n := range otherNumbers {
		if n < 0 || n > 1000 {
			finders = append(finders, impl.Finder{Fills: n}, impl.Finder{Hits: n}, impl.Finder{Fills: n, Hits: n})
		}
	}
	for _, dirs := range otherDirs() {
		finders = append(finders, impl.Finder{Dirs: dirs, Fills: 1, Hits: 1})
	}
	return finders
}

// asked returns what a directory has by a finder, and the finder after that: part of FindCached of valid arguments.
func asked(f impl.Finder, d impl.Disk, root int, p string) (impl.Finder, []string) {
	i, stamp := dirIndex(f.Dirs, root, p), stampIn(d, root, p)
	if i >= 0 && f.Dirs[i].Stamp == stamp {
		f.Hits = min(1000, f.Hits+1)
		return f, f.Dirs[i].Names
	}
	names, _ := listing(d.Tree, root, p)
	f.Fills = min(1000, f.Fills+1)
	f.Dirs = slices.Clone(f.Dirs)
	dir := impl.Dir{Root: root, Package: p, Stamp: stamp, Names: names}
	if i >= 0 {
		f.Dirs[i] = dir
	} else if len(f.Dirs) < 20 {
		f.Dirs = append(f.Dirs, dir)
	}
	return f, names
}

// lookedInRoot is what a root has of a name, if only what some entries tell is looked for.
func lookedInRoot(t impl.Tree, root int, s string, entries []string) impl.Spec {
	_, part, deeper := cutLast(s)
	if !deeper {
		part = s
	}
	spec := impl.Spec{File: -1}
	for i, f := range t.Files {
		if f.Root != root {
			continue
		}
		if slices.Contains(entries, part+"/") && spec.File == -1 && strings.HasPrefix(f.Package+".", s+".") {
			spec = impl.Spec{Kind: 3, File: -1, Roots: []int{root}}
		}
		if slices.Contains(entries, part) && !f.Init && nameAt(f) == s && spec.Kind != 2 {
			spec = impl.Spec{Kind: 1, File: i}
		}
		if slices.Contains(entries, part+"/") && f.Init && nameAt(f) == s {
			spec = impl.Spec{Kind: 2, File: i, Roots: []int{root}}
		}
	}
	return spec
}

// lookedCachedOver is what a finder finds of a name over some roots.
func lookedCachedOver(f impl.Finder, d impl.Disk, roots []int, s string) (impl.Finder, impl.Spec) {
	above, _, _ := cutLast(s)
	all := impl.Spec{File: -1}
	for _, root := range roots {
		var entries []string
		f, entries = asked(f, d, root, above)
		spec := lookedInRoot(d.Tree, root, s, entries)
		if spec.File != -1 {
			return f, spec
		}
		all.Roots = append(all.Roots, spec.Roots...)
	}
	if len(all.Roots) > 0 {
		all.Kind = 3
	}
	return f, all
}

// lookedCached is FindCached of valid arguments.
func lookedCached(f impl.Finder, d impl.Disk, path []int, s string) (impl.Finder, impl.Spec) {
	if above, _, deeper := cutLast(s); deeper {
		var spec impl.Spec
		f, spec = lookedCached(f, d, path, above)
		path = spec.Roots
	}
	return lookedCachedOver(f, d, path, s)
}

// isStale is the rule of StaleDirs for one directory.
func isStale(dir impl.Dir, d impl.Disk) bool {
	there, _ := listing(d.Tree, dir.Root, dir.Package)
	return dir.Stamp == stampIn(d, dir.Root, dir.Package) && !slices.Equal(dir.Names, there)
}

// withoutStale returns a finder without its stale directories.
func withoutStale(f impl.Finder, d impl.Disk) impl.Finder {
	f.Dirs = slices.DeleteFunc(slices.Clone(f.Dirs), func(dir impl.Dir) bool { return isStale(dir, d) })
	return f
}

// randomName returns the name of a module of a tree, one of lookNames, or a name at which files of randomFile lie.
func randomName(t impl.Tree, r *rand.Rand) string {
	if len(t.Files) > 0 && r.Intn(2) == 0 {
		return nameAt(t.Files[r.Intn(len(t.Files))])
	}
	if r.Intn(2) == 0 {
		return lookNames[r.Intn(len(lookNames))]
	}
	return nameAt(randomFile(r))
}

// randomPath returns one of allPaths, mostly one of several roots.
func randomPath(r *rand.Rand) []int {
	paths := allPaths()
	if r.Intn(3) > 0 {
		paths = slices.DeleteFunc(paths, func(path []int) bool { return len(path) < 2 })
	}
	return paths[r.Intn(len(paths))]
}

// muddled returns a finder of which some directories tell other names, or have other stamps.
func muddled(f impl.Finder, r *rand.Rand) impl.Finder {
	f.Dirs = copyOfDirs(f.Dirs)
	for i := range f.Dirs {
		switch r.Intn(6) {
		case 0:
			f.Dirs[i].Names = []string{"a", "b/", "ab", "ab/", "*"}[r.Intn(3) : 3+r.Intn(3)]
		case 1:
			f.Dirs[i].Names = nil
		case 2:
			f.Dirs[i].Stamp = r.Intn(10)
		}
	}
	return f
}

// eachHistory calls a function with a finder, a disk, a path and a name, again and again while the disk changes.
// The finder that the function returns is the next one, which goes on with what it knows; some know so much of what is
// nowhere that they are full soon. Each change takes at least the ticks least; without ticks there are stale directories,
// and some others are made up then.
func eachHistory(least int, f func(f impl.Finder, d impl.Disk, path []int, s string) impl.Finder) {
	for seed := range 40 {
		r := rand.New(rand.NewSource(int64(100 + seed)))
		d, finder := impl.Disk{}, impl.Finder{}
		if seed%4 == 3 {
			finder.Dirs = someDirs(14+r.Intn(7), 200)
		}
		for range 80 {
			for range 1 + r.Intn(2) {
				d = randomChange(d, r, least+r.Intn(3)/2)
			}
			if least == 0 && r.Intn(8) == 0 {
				finder = muddled(finder, r)
			}
			for range r.Intn(4) {
				finder = f(finder, d, randomPath(r), randomName(d.Tree, r))
			}
		}
	}
}

// expectCached fails if FindCached is not as it is told, and returns the finder after it, and what is found.
func expectCached(t *testing.T, f impl.Finder, d impl.Disk, path []int, s string) (impl.Finder, impl.Spec) {
	t.Helper()
	got, spec := impl.FindCached(f, d, path, s)
	want, wantSpec := lookedCached(f, d, path, s)
	if !sameFinder(got, want) || !sameSpec(spec, wantSpec) {
		t.Errorf("%q by %v in %v with %v is %v, and not %v, with %v, and not %v", s, path, d, f, spec, wantSpec, got, want)
	}
	return got, spec
}

func TestP37DisksGoOn(t *testing.T) {
	for _, d := range someDisks() {
		if !impl.ValidDisk(d) {
			t.Fatalf("%v is valid", d)
		}
		if without := (impl.Disk{Tree: d.Tree, Clock: d.Clock}); !impl.ValidDisk(without) {
			t.Errorf("%v is valid", without)
		}
		for clock := d.Clock; clock <= 205; clock++ {
			later := impl.Disk{Tree: d.Tree, Clock: clock, Dirs: d.Dirs}
			if impl.ValidDisk(later) != (clock <= 200) {
				t.Errorf("ValidDisk of %v is not %v", later, clock <= 200)
			}
		}
	}
	for _, d := range otherDisks() {
		if impl.ValidDisk(d) {
			t.Errorf("%v is not valid", brief(d))
		}
	}
}

func TestP37DirectoriesOfDisks(t *testing.T) {
	for clock := range 12 {
		for stamp := -1; stamp <= 12; stamp++ {
			for most := range 23 {
				d := impl.Disk{Clock: clock, Dirs: someDirs(most, stamp)}
				if want := most == 0 || most <= 20 && 0 <= stamp && stamp <= clock; impl.ValidDisk(d) != want {
					t.Errorf("ValidDisk of %v is not %v", d, want)
				}
			}
		}
	}
	dirs := []impl.Dir{{Root: 0, Package: "a"}, {Root: 1, Package: "a"}, {Root: 0, Package: ""}, {Root: 0, Package: "a.a"}}
	if !impl.ValidDisk(impl.Disk{Dirs: dirs}) {
		t.Error("directories of one package in different roots are different")
	}
	for i, dir := range dirs {
		if d := (impl.Disk{Clock: 1, Dirs: append(slices.Clone(dirs), impl.Dir{Root: dir.Root, Package: dir.Package, Stamp: 1})}); impl.ValidDisk(d) {
			t.Errorf("the directory %d is there twice in %v", i, d)
		}
	}
}

func TestP38StampsAreOfThePast(t *testing.T) {
	places := append(slices.Clone(somePlaces), "q.r.s", "zzz", "zzz.zzz.zzz")
	for _, d := range someDisks() {
		for root := range 3 {
			for _, p := range places {
				stamp := impl.StampOf(d, root, p)
				if stamp != stampIn(d, root, p) || stamp > d.Clock {
					t.Errorf("StampOf %q of %d in %v is %d", p, root, d, stamp)
				}
			}
		}
		for _, root := range append([]int{3}, otherNumbers...) {
			if stamp := impl.StampOf(d, root, ""); stamp != -1 {
				t.Errorf("StampOf \"\" of %d is %d", root, stamp)
			}
		}
	}
	for _, p := range oddNames() {
		if stamp := impl.StampOf(handDisk(), 0, p); p != "" && stamp != -1 {
			t.Errorf("StampOf %.20q is %d", p, stamp)
		}
	}
	for _, d := range otherDisks() {
		if impl.StampOf(d, 0, "") != -1 || impl.StampOf(d, 1, "a") != -1 {
			t.Errorf("StampOf in %v", brief(d))
		}
	}
}

func TestP38StampsAreTold(t *testing.T) {
	for _, c := range []struct {
		root  int
		p     string
		stamp int
	}{{0, "a", 3}, {0, "", 7}, {1, "", 0}, {1, "a", 0}, {2, "a", 0}, {2, "b.c", 1}, {2, "b", 0}, {1, "q.r.s", 5}, {1, "q.r", 0}, {0, "q.r.s", 0}} {
		if stamp := impl.StampOf(handDisk(), c.root, c.p); stamp != c.stamp {
			t.Errorf("StampOf %q of %d is %d, and not %d", c.p, c.root, stamp, c.stamp)
		}
	}
}

// eachChange calls a function with disks and numbers of ticks, some of which are too many, or too few.
func eachChange(f func(d impl.Disk, r *rand.Rand, ticks int)) {
	r := rand.New(rand.NewSource(9))
	for _, d := range someDisks() {
		for _, ticks := range []int{0, 1, 2, 199 - d.Clock, 200 - d.Clock, 201 - d.Clock, 200, -1, math.MaxInt, math.MaxInt - d.Clock, math.MinInt} {
			f(d, r, ticks)
		}
	}
}

// expectDisk fails if a disk is not as it is wanted, and counts how often it is possible.
func expectDisk(t *testing.T, counts map[bool]int, got impl.Disk, ok bool, want impl.Disk, wantOk bool) {
	t.Helper()
	counts[ok]++
	if ok != wantOk || !sameDisk(got, want) || ok && !impl.ValidDisk(got) {
		t.Errorf("the disk is %v, %v, and not %v, %v", got, ok, want, wantOk)
	}
}

func TestP39ChangesAreStamped(t *testing.T) {
	counts := map[bool]int{}
	eachChange(func(d impl.Disk, r *rand.Rand, ticks int) {
		f := randomFile(r)
		got, ok := impl.DiskAdd(d, f, ticks)
		want, wantOk := impl.Disk{}, false
		if u, added := impl.AddFile(d.Tree, f); added {
			want, wantOk = stamped(d, u, f.Root, f.Package, ticks)
		}
		expectDisk(t, counts, got, ok, want, wantOk)
		if !ok {
			return
		}
		for root := range 3 {
			for _, p := range somePlaces {
				stamp := stampIn(d, root, p)
				if root == f.Root && (p == "" || p == f.Package || strings.HasPrefix(f.Package, p+".")) {
					stamp = d.Clock + ticks
				}
				if impl.StampOf(got, root, p) != stamp {
					t.Errorf("StampOf %q of %d in %v is not %d", p, root, got, stamp)
				}
			}
		}
	})
	if counts[true] < 400 || counts[false] < 400 {
		t.Errorf("files are added too often, or too rarely: %v", counts)
	}
}

func TestP39NewDirectoriesComeBehindTheOthers(t *testing.T) {
	d, ok := impl.DiskAdd(impl.Disk{}, impl.File{Root: 1, Package: "a.b.c", Init: true, Stamp: 40, Body: someStmts[:3]}, 3)
	want := []impl.Dir{{Root: 1, Stamp: 3}, {Root: 1, Package: "a", Stamp: 3}, {Root: 1, Package: "a.b", Stamp: 3}, {Root: 1, Package: "a.b.c", Stamp: 3}}
	if !ok || d.Clock != 3 || !sameDirs(d.Dirs, want) || len(d.Tree.Files) != 1 || d.Tree.Files[0].Stamp != 40 || !slices.Equal(d.Tree.Files[0].Body, someStmts[:3]) {
		t.Errorf("DiskAdd is %v", d)
	}
	e, ok := impl.DiskAdd(d, impl.File{Root: 1, Package: "a.z", Name: "y"}, 2)
	want = []impl.Dir{{Root: 1, Stamp: 5}, {Root: 1, Package: "a", Stamp: 5}, {Root: 1, Package: "a.b", Stamp: 3}, {Root: 1, Package: "a.b.c", Stamp: 3}, {Root: 1, Package: "a.z", Stamp: 5}}
	if !ok || !sameDirs(e.Dirs, want) {
		t.Errorf("DiskAdd is %v", e)
	}
	g, ok := impl.DiskAdd(e, impl.File{Root: 0, Name: "a"}, 0)
	if !ok || g.Clock != 5 || !sameDirs(g.Dirs, append(want, impl.Dir{Root: 0, Stamp: 5})) {
		t.Errorf("DiskAdd is %v", g)
	}
	h, ok := impl.DiskAdd(handDisk(), impl.File{Root: 0, Package: "a.b", Name: "y"}, 1)
	want = []impl.Dir{{Root: 0, Package: "a", Stamp: 8}, {Root: 0, Stamp: 8}, {Root: 2, Package: "b.c", Stamp: 1}, {Root: 2, Package: "a"}, {Root: 1, Package: "q.r.s", Stamp: 5}, {Root: 0, Package: "a.b", Stamp: 8}}
	if !ok || !sameDirs(h.Dirs, want) {
		t.Errorf("DiskAdd is %v", h)
	}
}

func TestP39DisksAreFull(t *testing.T) {
	known, unknown := impl.File{Root: 1, Package: "a", Name: "y"}, impl.File{Root: 0, Package: "y", Name: "y"}
	for _, c := range []struct {
		d     impl.Disk
		f     impl.File
		ticks int
		want  bool
	}{
		{impl.Disk{Dirs: someDirs(20, 0)}, known, 0, true}, {impl.Disk{Dirs: someDirs(20, 0)}, unknown, 0, false},
		{impl.Disk{Dirs: someDirs(19, 0)}, unknown, 0, true}, {impl.Disk{Dirs: someDirs(19, 0)}, impl.File{Package: "y.z", Name: "y"}, 0, false}, {impl.Disk{Dirs: someDirs(18, 0)}, impl.File{Package: "y.z", Name: "y"}, 0, true},
		{impl.Disk{Clock: 200}, known, 0, true}, {impl.Disk{Clock: 200}, known, 1, false}, {impl.Disk{Clock: 150}, known, 50, true}, {impl.Disk{Clock: 150}, known, 51, false},
		{impl.Disk{}, known, 200, true}, {impl.Disk{}, known, 201, false}, {impl.Disk{}, known, -1, false}, {impl.Disk{Clock: 5}, known, -5, false}, {impl.Disk{Clock: 1}, known, math.MaxInt, false},
		{impl.Disk{Tree: fullTree()}, known, 1, false}, {impl.Disk{Tree: impl.Tree{Files: fullTree().Files[:11]}}, known, 1, true}, {impl.Disk{Tree: impl.Tree{Files: []impl.File{known}}}, known, 1, false},
	} {
		if after, ok := impl.DiskAdd(c.d, c.f, c.ticks); ok != c.want || ok != impl.ValidDisk(after) && !isZeroDisk(after) {
			t.Errorf("DiskAdd of %v to %v with %d ticks is %v, %v", c.f, c.d, c.ticks, after, ok)
		}
	}
}

func TestP39OtherFilesAndDisksAreNotChanged(t *testing.T) {
	for _, f := range otherFiles() {
		if d, ok := impl.DiskAdd(handDisk(), f, 1); ok || !isZeroDisk(d) {
			t.Errorf("DiskAdd of %v is %v", brief(f), d)
		}
	}
	// Some of these disks would be valid after the change, as it takes a tick, or as their directory gets another stamp.
	for _, d := range otherDisks() {
		for ticks := range 3 {
			after, ok := impl.DiskAdd(d, impl.File{Root: ticks, Name: "q"}, ticks)
			again, okAgain := impl.DiskAdd(d, impl.File{Root: 0, Name: "q"}, ticks)
			if ok || okAgain || !isZeroDisk(after) || !isZeroDisk(again) {
				t.Errorf("DiskAdd to %v is %v", brief(d), brief(after))
			}
		}
	}
}

func TestP40RemovalsAreStampedToo(t *testing.T) {
	counts := map[bool]int{}
	eachChange(func(d impl.Disk, r *rand.Rand, ticks int) {
		i := r.Intn(len(d.Tree.Files)+2) - 1
		got, ok := impl.DiskRemove(d, i, ticks)
		want, wantOk := impl.Disk{}, false
		u, removed := impl.RemoveFile(d.Tree, i)
		if removed {
			want, wantOk = stamped(d, u, d.Tree.Files[i].Root, d.Tree.Files[i].Package, ticks)
		}
		expectDisk(t, counts, got, ok, want, wantOk)
		if ok && (!sameTree(got.Tree, u) || impl.StampOf(got, d.Tree.Files[i].Root, d.Tree.Files[i].Package) != got.Clock) {
			t.Errorf("DiskRemove of %d from %v is %v", i, d, got)
		}
	})
	if counts[true] < 400 || counts[false] < 400 {
		t.Errorf("files are removed too often, or too rarely: %v", counts)
	}
}

func TestP40DirectoriesThatGoKeepTheirStamps(t *testing.T) {
	d, _ := impl.DiskAdd(impl.Disk{}, impl.File{Root: 2, Package: "a.b", Name: "c"}, 1)
	e, ok := impl.DiskRemove(d, 0, 4)
	want := []impl.Dir{{Root: 2, Stamp: 5}, {Root: 2, Package: "a", Stamp: 5}, {Root: 2, Package: "a.b", Stamp: 5}}
	if !ok || impl.HasDir(e.Tree, 2, "a") || e.Clock != 5 || !sameDirs(e.Dirs, want) {
		t.Errorf("DiskRemove is %v", e)
	}
	// The directories of a file need not be known when it goes; then they are.
	g, ok := impl.DiskRemove(handDisk(), 6, 1)
	want = []impl.Dir{{Root: 0, Package: "a", Stamp: 8}, {Root: 0, Stamp: 8}, {Root: 2, Package: "b.c", Stamp: 1}, {Root: 2, Package: "a"}, {Root: 1, Package: "q.r.s", Stamp: 5}, {Root: 0, Package: "a.b", Stamp: 8}}
	if !ok || !sameDirs(g.Dirs, want) || len(g.Tree.Files) != 9 {
		t.Errorf("DiskRemove is %v", g)
	}
	full := impl.Disk{Tree: impl.Tree{Files: []impl.File{{Root: 1, Package: "y", Name: "y"}, {Root: 1, Package: "a", Name: "y"}}}, Dirs: someDirs(20, 0)}
	if after, ok := impl.DiskRemove(full, 0, 0); ok || !isZeroDisk(after) {
		t.Errorf("DiskRemove with one more directory is %v", after)
	}
	if after, ok := impl.DiskRemove(full, 1, 0); !ok || !sameTree(after.Tree, impl.Tree{Files: full.Tree.Files[:1]}) {
		t.Errorf("DiskRemove with directories that are known is %v", after)
	}
}

func TestP40OtherFilesAreNotRemoved(t *testing.T) {
	for _, i := range append([]int{10, 11, 12}, otherNumbers...) {
		if d, ok := impl.DiskRemove(handDisk(), i, 1); ok || !isZeroDisk(d) {
			t.Errorf("DiskRemove of %d is %v", i, d)
		}
	}
	for _, ticks := range []int{-1, 194, 200, math.MaxInt, math.MinInt, math.MaxInt - 6} {
		if d, ok := impl.DiskRemove(handDisk(), 0, ticks); ok || !isZeroDisk(d) {
			t.Errorf("DiskRemove with %d ticks is %v", ticks, d)
		}
	}
	if d, ok := impl.DiskRemove(handDisk(), 0, 193); !ok || d.Clock != 200 {
		t.Errorf("DiskRemove up to the last stamp is %v", d)
	}
	for _, d := range otherDisks() {
		if len(d.Tree.Files) == 0 {
			d.Tree = handTree()
		}
		for ticks := range 3 {
			if after, ok := impl.DiskRemove(d, 0, ticks); ok || !isZeroDisk(after) {
				t.Errorf("DiskRemove from %v is %v", brief(d), brief(after))
			}
		}
	}
}

// someFinders returns valid finders: those at the limits, those that know what is nowhere, and those of a history.
func someFinders() []impl.Finder {
	finders := []impl.Finder{
		{}, {Dirs: []impl.Dir{}}, {Fills: 1000}, {Hits: 1000}, {Fills: 1000, Hits: 1000, Dirs: someDirs(20, 200)}, {Dirs: someDirs(19, 0), Fills: 3},
		{Dirs: []impl.Dir{{Names: make([]string, 12)}, {Root: 1, Package: "a.b.c", Stamp: 200, Names: []string{"b", "a", "a", "//", "\xff", "zzzz", longTexts()[0]}}}},
	}
	eachHistory(0, func(f impl.Finder, d impl.Disk, path []int, s string) impl.Finder {
		if len(finders) < 400 {
			finders = append(finders, f)
		}
		f, _ = impl.FindCached(f, d, path, s)
		return f
	})
	return finders
}

func TestP41FindersCanForget(t *testing.T) {
	for _, f := range someFinders() {
		if !impl.ValidFinder(f) || !impl.ValidFinder(impl.ForgetAll(f)) {
			t.Errorf("%v is valid", brief(f))
		}
		for i := range f.Dirs {
			if less := (impl.Finder{Dirs: slices.Delete(slices.Clone(f.Dirs), i, i+1)}); !impl.ValidFinder(less) {
				t.Errorf("%v is valid", brief(less))
			}
		}
	}
	for _, f := range otherFinders() {
		if impl.ValidFinder(f) {
			t.Errorf("%v is not valid", brief(f))
		}
	}
}

func TestP41LimitsOfFinders(t *testing.T) {
	for most := range 24 {
		for names := range 15 {
			for _, stamp := range []int{-1, 0, 1, 199, 200, 201} {
				f := impl.Finder{Dirs: append([]impl.Dir{{Root: 2, Package: "abc.xyz", Stamp: stamp, Names: make([]string, names)}}, someDirs(most, 7)...)}
				if want := most < 20 && names <= 12 && 0 <= stamp && stamp <= 200; impl.ValidFinder(f) != want {
					t.Errorf("ValidFinder with %d directories, %d names and the stamp %d is not %v", most+1, names, stamp, want)
				}
			}
		}
	}
	for n := -3; n < 1010; n++ {
		want := 0 <= n && n <= 1000
		if impl.ValidFinder(impl.Finder{Fills: n}) != want || impl.ValidFinder(impl.Finder{Hits: n}) != want {
			t.Errorf("ValidFinder with %d fills or hits is not %v", n, want)
		}
	}
}

func TestP42FreshFindersFindWhatIsThere(t *testing.T) {
	kinds := map[int]int{}
	for least := range 3 {
		eachHistory(least, func(f impl.Finder, d impl.Disk, path []int, s string) impl.Finder {
			if least > 0 && len(impl.StaleDirs(f, d)) > 0 {
				t.Errorf("%v is stale on %v, and each change took a tick", f, d)
			}
			f = withoutStale(f, d)
			after, spec := expectCached(t, f, d, path, s)
			expectSpec(t, spec, impl.FindSpec(d.Tree, path, s), d.Tree, path, s)
			if stale := impl.StaleDirs(after, d); len(stale) > 0 || !impl.ValidFinder(after) {
				t.Errorf("%v is stale on %v after %q: %v", after, d, s, stale)
			}
			kinds[spec.Kind]++
			return after
		})
	}
	for kind := range 4 {
		if kinds[kind] < 100 {
			t.Errorf("the kinds are found too rarely: %v", kinds)
		}
	}
}

func TestP42OneNameAfterTheOther(t *testing.T) {
	for _, u := range lookTrees() {
		for _, path := range allPaths() {
			d, f := impl.Disk{Tree: u}, impl.Finder{}
			for _, s := range lookNames[:16] {
				var spec impl.Spec
				f, spec = impl.FindCached(f, d, path, s)
				expectSpec(t, spec, looked(u, path, s), u, path, s)
			}
		}
	}
}

func TestP42OtherArgumentsFindNothing(t *testing.T) {
	path, f := []int{0, 1, 2}, impl.Finder{Dirs: someDirs(3, 1), Fills: 4, Hits: 5}
	check := func(f impl.Finder, d impl.Disk, path []int, s string) {
		t.Helper()
		if after, spec := impl.FindCached(f, d, path, s); !isNothing(spec) || !isZeroFinder(after) {
			t.Errorf("FindCached of %.20q is %v, %v", s, brief(after), spec)
		}
	}
	for _, s := range oddNames() {
		check(f, handDisk(), path, s)
		check(f, impl.Disk{}, nil, s)
	}
	for _, roots := range otherPaths() {
		check(f, handDisk(), roots, "a")
	}
	for _, g := range otherFinders() {
		check(g, handDisk(), path, "a")
	}
	for _, d := range otherDisks() {
		check(f, d, path, "a")
	}
}

func TestP43StaleFindersMissAndDoNotLie(t *testing.T) {
	missed, others := 0, 0
	eachHistory(0, func(f impl.Finder, d impl.Disk, path []int, s string) impl.Finder {
		after, spec := expectCached(t, f, d, path, s)
		there := looked(d.Tree, path, s)
		if spec.File != -1 && (spec.File >= len(d.Tree.Files) || nameAt(d.Tree.Files[spec.File]) != s || !slices.Contains(path, d.Tree.Files[spec.File].Root)) {
			t.Errorf("%q by %v in %v has the file %d", s, path, d, spec.File)
		}
		_, fresh := impl.FindCached(impl.ForgetAll(f), d, path, s)
		expectSpec(t, fresh, there, d.Tree, path, s)
		if isNothing(spec) && !isNothing(there) {
			missed++
		} else if !sameSpec(spec, there) {
			others++
		}
		return after
	})
	if missed < 100 || others < 50 {
		t.Errorf("finders are stale too rarely: %d, %d", missed, others)
	}
}

func TestP43WhatIsBelievedIsLookedFor(t *testing.T) {
	module, pack, inside := impl.File{Name: "a"}, impl.File{Package: "a", Init: true}, impl.File{Package: "a", Name: "b"}
	module1, deep1 := impl.File{Root: 1, Name: "a"}, impl.File{Root: 1, Package: "a.b", Init: true}
	for i, c := range []struct {
		names []string
		files []impl.File
		want  impl.Spec
	}{
		{nil, []impl.File{module, pack, inside}, impl.Spec{File: -1}},
		{[]string{"a"}, []impl.File{module, pack}, impl.Spec{Kind: 1, File: 0}},
		{[]string{"a"}, []impl.File{pack, inside}, impl.Spec{File: -1}},
		{[]string{"a/"}, []impl.File{module, pack}, impl.Spec{Kind: 2, File: 1, Roots: []int{0}}},
		{[]string{"a/"}, []impl.File{module, inside}, impl.Spec{Kind: 3, File: -1, Roots: []int{0}}},
		{[]string{"a/"}, []impl.File{module}, impl.Spec{File: -1}},
		{[]string{"a", "a/"}, []impl.File{module, inside}, impl.Spec{Kind: 1, File: 0}},
		{[]string{"a/", "a"}, []impl.File{inside, pack, module}, impl.Spec{Kind: 2, File: 1, Roots: []int{0}}},
		{[]string{"a", "a/"}, []impl.File{inside}, impl.Spec{Kind: 3, File: -1, Roots: []int{0}}},
		{[]string{"a", "a/"}, nil, impl.Spec{File: -1}},
		{[]string{"*", "b", "aa/", "a//", "/a", "", "/"}, []impl.File{module, pack}, impl.Spec{File: -1}},
		{nil, []impl.File{module, module1}, impl.Spec{Kind: 1, File: 1}},
		{[]string{"a"}, []impl.File{inside, deep1}, impl.Spec{Kind: 3, File: -1, Roots: []int{1}}},
		{[]string{"a/"}, []impl.File{module, inside, deep1}, impl.Spec{Kind: 3, File: -1, Roots: []int{0, 1}}},
		{[]string{"a/"}, []impl.File{module, inside, module1}, impl.Spec{Kind: 1, File: 2}},
	} {
		d := impl.Disk{Tree: impl.Tree{Files: c.files}}
		f := impl.Finder{Dirs: []impl.Dir{{Root: 0, Package: "", Names: c.names}}}
		after, spec := expectCached(t, f, d, []int{0, 1}, "a")
		if expectSpec(t, spec, c.want, d.Tree, []int{0, 1}, "a"); !sameDir(after.Dirs[0], f.Dirs[0]) || after.Hits != 1 {
			t.Errorf("the finder %d is %v", i, after)
		}
		f.Dirs[0].Stamp = 1
		_, spec = expectCached(t, f, d, []int{0, 1}, "a")
		expectSpec(t, spec, looked(d.Tree, []int{0, 1}, "a"), d.Tree, []int{0, 1}, "a")
	}
}

// TestP43DirectoriesComeAndGo checks that what comes without a tick is missed, and what goes without one is not found.
func TestP43DirectoriesComeAndGo(t *testing.T) {
	file := impl.File{Package: "a.b", Name: "c"}
	for ticks := range 3 {
		d, f := impl.Disk{}, impl.Finder{}
		f, spec := impl.FindCached(f, d, []int{0}, "a.b.c")
		if !isNothing(spec) || f.Fills != 1 {
			t.Errorf("in an empty tree it is %v, with %v", spec, f)
		}
		d, _ = impl.DiskAdd(d, file, ticks)
		f, spec = impl.FindCached(f, d, []int{0}, "a.b.c")
		if isNothing(spec) != (ticks == 0) {
			t.Errorf("after it came with %d ticks it is %v", ticks, spec)
		}
		f, spec = impl.FindCached(impl.ForgetAll(f), d, []int{0}, "a.b.c")
		expectSpec(t, spec, impl.Spec{Kind: 1, File: 0}, d.Tree, []int{0}, "a.b.c")
		d, _ = impl.DiskRemove(d, 0, ticks)
		f, spec = impl.FindCached(f, d, []int{0}, "a.b.c")
		if stale := impl.StaleDirs(f, d); !isNothing(spec) || (len(stale) == 3) != (ticks == 0) || ticks > 0 && len(stale) > 0 {
			t.Errorf("after it went with %d ticks it is %v, and stale is %v", ticks, spec, stale)
		}
		d, _ = impl.DiskAdd(d, file, ticks)
		f, spec = impl.FindCached(f, d, []int{0}, "a.b.c")
		expectSpec(t, spec, impl.Spec{Kind: 1, File: 0}, d.Tree, []int{0}, "a.b.c")
		if stale := impl.StaleDirs(f, d); len(stale) > 0 || len(f.Dirs) != 3 {
			t.Errorf("after it came back with %d ticks stale is %v of %v", ticks, stale, f)
		}
	}
}

func TestP44WhatWasLookedForIsKnown(t *testing.T) {
	full := 0
	eachHistory(0, func(f impl.Finder, d impl.Disk, path []int, s string) impl.Finder {
		once, first := impl.FindCached(f, d, path, s)
		twice, second := expectCached(t, once, d, path, s)
		expectSpec(t, second, first, d.Tree, path, s)
		looks := once.Fills + once.Hits - f.Fills - f.Hits
		if !impl.ValidFinder(twice) || twice.Fills+twice.Hits != once.Fills+once.Hits+looks {
			t.Errorf("%v after %v after %v", twice, once, f)
		}
		if len(once.Dirs) == 20 {
			full++
		} else if twice.Fills != once.Fills || !sameDirs(twice.Dirs, once.Dirs) {
			t.Errorf("%q is filled twice: %v after %v", s, twice, once)
		}
		return once
	})
	if full < 100 {
		t.Errorf("only %d finders are full", full)
	}
}

func TestP44RootsAreAskedInOrder(t *testing.T) {
	d := impl.Disk{Clock: 4, Dirs: []impl.Dir{{Root: 1, Package: "", Stamp: 4}}, Tree: impl.Tree{Files: []impl.File{
		{Root: 0, Package: "a", Name: "b"}, {Root: 1, Package: "a", Name: "c"}, {Root: 2, Package: "p", Init: true}, {Root: 1, Package: "p.q", Name: "x"}, {Root: 2, Package: "p.q", Name: "x"}, {Root: 1, Name: "m"},
	}}}
	for _, c := range []struct {
		path []int
		s    string
		asks []impl.Dir
	}{
		{nil, "a", nil}, {[]int{0, 1, 2}, "m", []impl.Dir{{Root: 0}, {Root: 1}}}, {[]int{1, 0, 2}, "m", []impl.Dir{{Root: 1}}}, {[]int{0, 1}, "m.x", []impl.Dir{{Root: 0}, {Root: 1}}},
		{[]int{0, 2}, "z.y.x", []impl.Dir{{Root: 0}, {Root: 2}}}, {[]int{0, 1}, "a", []impl.Dir{{Root: 0}, {Root: 1}}},
		{[]int{2, 1, 0}, "a.b", []impl.Dir{{Root: 2}, {Root: 1}, {Root: 0}, {Root: 1, Package: "a"}, {Root: 0, Package: "a"}}},
		{[]int{0, 1, 2}, "a.b", []impl.Dir{{Root: 0}, {Root: 1}, {Root: 2}, {Root: 0, Package: "a"}}},
		{[]int{0, 1, 2}, "p.q.x", []impl.Dir{{Root: 0}, {Root: 1}, {Root: 2}, {Root: 2, Package: "p"}, {Root: 2, Package: "p.q"}}},
		{[]int{1, 0}, "p.q.y", []impl.Dir{{Root: 1}, {Root: 0}, {Root: 1, Package: "p"}, {Root: 1, Package: "p.q"}}},
	} {
		f, _ := expectCached(t, impl.Finder{}, d, c.path, c.s)
		for i := range c.asks {
			c.asks[i].Stamp = stampIn(d, c.asks[i].Root, c.asks[i].Package)
			c.asks[i].Names, _ = listing(d.Tree, c.asks[i].Root, c.asks[i].Package)
		}
		if !sameDirs(f.Dirs, c.asks) || f.Fills != len(c.asks) || f.Hits != 0 {
			t.Errorf("%q by %v has asked %v, and not %v", c.s, c.path, f, c.asks)
		}
		if f, _ = expectCached(t, f, d, c.path, c.s); !sameDirs(f.Dirs, c.asks) || f.Fills != len(c.asks) || f.Hits != len(c.asks) {
			t.Errorf("%q by %v has asked %v, and not %v", c.s, c.path, f, c.asks)
		}
	}
}

func TestP44FullFinders(t *testing.T) {
	d := impl.Disk{Clock: 3, Dirs: []impl.Dir{{Root: 0, Stamp: 3}}, Tree: impl.Tree{Files: []impl.File{{Root: 0, Package: "y", Name: "x"}, {Root: 0, Package: "b", Name: "x"}}}}
	there, read := impl.Dir{Root: 0, Package: "", Stamp: 3, Names: []string{"b/", "y/"}}, impl.Dir{Root: 0, Package: "y", Names: []string{"x"}}
	// A full finder finds what is there, and has what it had, but for the directory that it knew with another stamp.
	f := impl.Finder{Dirs: someDirs(20, 9)}
	want := append([]impl.Dir{there}, someDirs(20, 9)[1:]...)
	for fills := range 3 {
		var spec impl.Spec
		f, spec = expectCached(t, f, d, []int{0}, "y.x")
		expectSpec(t, spec, impl.Spec{Kind: 1, File: 0}, d.Tree, []int{0}, "y.x")
		if !sameDirs(f.Dirs, want) || f.Fills != 2+fills || f.Hits != fills {
			t.Errorf("the finder is %v", f)
		}
	}
	f, _ = expectCached(t, f, d, []int{0}, "b.x")
	want[6] = impl.Dir{Root: 0, Package: "b", Names: []string{"x"}}
	if !sameDirs(f.Dirs, want) {
		t.Errorf("the finder is %v", f)
	}
	// With room for one more, the first one that is read is known, and later ones are not.
	g, _ := expectCached(t, impl.Finder{Dirs: someDirs(20, 9)[1:]}, d, []int{0}, "y.x")
	if !sameDirs(g.Dirs, append(someDirs(20, 9)[1:], there)) || g.Fills != 2 {
		t.Errorf("the finder is %v", g)
	}
	h, _ := expectCached(t, impl.Finder{Dirs: someDirs(19, 9)[1:]}, d, []int{0}, "y.x")
	if !sameDirs(h.Dirs, append(someDirs(19, 9)[1:], there, read)) || h.Fills != 2 {
		t.Errorf("the finder is %v", h)
	}
}

func TestP44FillsAndHitsStop(t *testing.T) {
	d := impl.Disk{Tree: handTree()}
	f, _ := expectCached(t, impl.Finder{Fills: 999, Hits: 1000}, d, []int{0, 1, 2}, "ab.b")
	if f.Fills != 1000 || f.Hits != 1000 || len(f.Dirs) != 4 {
		t.Errorf("the finder is %v", f)
	}
	f.Hits = 997
	for range 2 {
		if f, _ = expectCached(t, f, d, []int{0, 1, 2}, "ab.b"); f.Fills != 1000 || f.Hits != 1000 || !impl.ValidFinder(f) {
			t.Errorf("the finder is %v", f)
		}
	}
}

func TestP45WhoForgetsHasNothingStale(t *testing.T) {
	disks := someDisks()
	for i, f := range someFinders() {
		g := impl.ForgetAll(f)
		if len(g.Dirs) != 0 || g.Fills != f.Fills || g.Hits != f.Hits {
			t.Errorf("ForgetAll of %v is %v", brief(f), g)
		}
		if d := disks[i%len(disks)]; len(impl.StaleDirs(g, d)) != 0 {
			t.Errorf("%v is stale on %v", g, d)
		}
	}
	for _, f := range otherFinders() {
		if g := impl.ForgetAll(f); !isZeroFinder(g) {
			t.Errorf("ForgetAll of %v is %v", brief(f), brief(g))
		}
	}
}

func TestP46OnlyWhatIsBelievedIsStale(t *testing.T) {
	counts := map[int]int{}
	eachHistory(0, func(f impl.Finder, d impl.Disk, path []int, s string) impl.Finder {
		stale := impl.StaleDirs(f, d)
		var want []int
		for i, dir := range f.Dirs {
			if isStale(dir, d) {
				want = append(want, i)
			}
		}
		if counts[min(2, len(stale))]++; !slices.Equal(stale, want) {
			t.Errorf("StaleDirs of %v on %v is %v, and not %v", f, d, stale, want)
		}
		f, _ = impl.FindCached(f, d, path, s)
		return f
	})
	if counts[0] < 200 || counts[1] < 200 || counts[2] < 200 {
		t.Errorf("finders are stale too often, or too rarely: %v", counts)
	}
}

func TestP46StaleDirectoriesAreTold(t *testing.T) {
	f := impl.Finder{Dirs: []impl.Dir{
		{Root: 0, Package: "a", Stamp: 3, Names: []string{"*", "b/", "z"}},
		{Root: 0, Package: "", Stamp: 7, Names: []string{"ab/", "a/", "a"}}, // in another order
		{Root: 1, Package: "", Stamp: 0, Names: []string{"a/", "b", "b"}},   // one of them twice
		{Root: 2, Package: "", Stamp: 1},                                    // with another stamp
		{Root: 2, Package: "b", Stamp: 0, Names: []string{"c/"}},
		{Root: 2, Package: "b.c", Stamp: 1},
		{Root: 0, Package: "q", Stamp: 0},
		{Root: 1, Package: "q.r.s", Stamp: 5, Names: []string{""}},
		{Root: 1, Package: "q", Stamp: 5, Names: []string{"*"}},
		{Root: 0, Package: "a.b", Stamp: 0, Names: []string{"a"}},
	}}
	if stale := impl.StaleDirs(f, handDisk()); !slices.Equal(stale, []int{1, 2, 5, 7, 9}) {
		t.Errorf("StaleDirs is %v", stale)
	}
	if stale := impl.StaleDirs(f, impl.Disk{}); !slices.Equal(stale, []int{2, 4, 9}) {
		t.Errorf("StaleDirs of a disk without files is %v", stale)
	}
}

func TestP46OtherArgumentsHaveNothingStale(t *testing.T) {
	f := impl.Finder{Dirs: []impl.Dir{{Names: []string{"x"}}, {Root: 1, Package: "a", Names: []string{"x"}}}}
	if stale := impl.StaleDirs(f, impl.Disk{}); !slices.Equal(stale, []int{0, 1}) {
		t.Errorf("StaleDirs is %v", stale)
	}
	for _, d := range otherDisks() {
		if stale := impl.StaleDirs(f, d); len(stale) != 0 {
			t.Errorf("StaleDirs of %v is %v", brief(d), stale)
		}
	}
	for _, g := range otherFinders() {
		if stale := impl.StaleDirs(g, impl.Disk{}); len(stale) != 0 {
			t.Errorf("StaleDirs of %v is %v", brief(g), stale)
		}
	}
}

// spoilDirs changes all that directories have, and what lies behind them in their memory.
func spoilDirs(dirs []impl.Dir) {
	for i := range dirs[:cap(dirs)] {
		names := dirs[:cap(dirs)][i].Names
		for j := range names[:cap(names)] {
			names[:cap(names)][j] = "spoilt"
		}
		dirs[:cap(dirs)][i] = impl.Dir{Root: -1, Package: "spoilt"}
	}
}

// TestDiskResultsAreFresh checks that disks share no memory with those before them, and that these stay as they are.
func TestDiskResultsAreFresh(t *testing.T) {
	body := append(make([]impl.Stmt, 0, 16), someStmts[0], someStmts[1])
	added := impl.File{Root: 2, Package: "q", Name: "q", Body: body[:1]}
	for i, change := range []func(impl.Disk) (impl.Disk, bool){
		func(d impl.Disk) (impl.Disk, bool) { return impl.DiskAdd(d, added, 0) },
		func(d impl.Disk) (impl.Disk, bool) {
			return impl.DiskAdd(d, impl.File{Root: 0, Package: "a", Name: "q"}, 1)
		},
		func(d impl.Disk) (impl.Disk, bool) { return impl.DiskRemove(d, 0, 1) },
		func(d impl.Disk) (impl.Disk, bool) { return impl.DiskRemove(d, 9, 0) },
	} {
		dirs := append(make([]impl.Dir, 0, 40), handDisk().Dirs...)
		names := []string{"a", "b", "c"}
		for j := range dirs {
			dirs[j].Names = names[:0]
		}
		files := append(make([]impl.File, 0, 40), handTree().Files...)
		d := impl.Disk{Tree: impl.Tree{Files: files}, Clock: 7, Dirs: dirs}
		after, ok := change(d)
		if !ok {
			t.Fatalf("the change %d is not possible", i)
		}
		spoil(after.Tree)
		spoilDirs(after.Dirs)
		spare := dirs[:len(dirs)+1][len(dirs)]
		if !sameDisk(d, handDisk()) || !slices.Equal(body, someStmts[:2]) || !sameDir(spare, impl.Dir{}) || !slices.Equal(names, []string{"a", "b", "c"}) {
			t.Errorf("the change %d shares memory with its arguments, or changes them", i)
		}
	}
}

// TestFinderResultsAreFresh checks the same of finders, the names of which lie in one memory.
func TestFinderResultsAreFresh(t *testing.T) {
	names := []string{"a", "a/", "b", "x", "y"}
	dirs := make([]impl.Dir, 0, 40)
	dirs = append(dirs, impl.Dir{Root: 0, Stamp: 7, Names: names[:3]}, impl.Dir{Root: 1, Stamp: 2, Names: names[1:4]}, impl.Dir{Root: 2, Package: "q", Names: names[:2]})
	f := impl.Finder{Dirs: dirs, Fills: 1, Hits: 2}
	before := impl.Finder{Dirs: copyOfDirs(dirs), Fills: 1, Hits: 2}
	path := []int{0, 1, 2}
	for _, s := range []string{"a", "a.b", "b.c.d", "q"} {
		want, wantSpec := impl.FindCached(f, handDisk(), path, s)
		for i := range want.Dirs {
			got, spec := impl.FindCached(f, handDisk(), path, s)
			spoilDirs(got.Dirs[i : i+1 : i+1])
			rest := slices.Delete(copyOfDirs(got.Dirs), i, i+1)
			if !sameDirs(rest, slices.Delete(copyOfDirs(want.Dirs), i, i+1)) || !sameSpec(spec, wantSpec) {
				t.Errorf("what is known of directories shares memory: %v", got)
			}
		}
		spoilDirs(want.Dirs)
		for i := range wantSpec.Roots[:cap(wantSpec.Roots)] {
			wantSpec.Roots[:cap(wantSpec.Roots)][i] = -9
		}
		spare := dirs[:len(dirs)+1][len(dirs)]
		if !sameFinder(f, before) || !slices.Equal(names, []string{"a", "a/", "b", "x", "y"}) || !slices.Equal(path, []int{0, 1, 2}) || !sameDir(spare, impl.Dir{}) {
			t.Errorf("FindCached of %q shares memory with its arguments, or changes them", s)
		}
	}
	stale := impl.StaleDirs(f, handDisk())
	for i := range stale {
		stale[i] = -9
	}
	if again := impl.StaleDirs(f, handDisk()); !slices.Equal(again, []int{0, 2}) || !sameFinder(f, before) {
		t.Errorf("StaleDirs is %v", again)
	}
}

func TestFinderLimits(t *testing.T) {
	for i, c := range [][2]int{{impl.MaxClock, 200}, {impl.MaxDirs, 20}, {impl.MaxFills, 1000}} {
		if c[0] != c[1] {
			t.Errorf("the constant %d is %d, and not %d", i, c[0], c[1])
		}
	}
}

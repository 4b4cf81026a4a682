package tests

import (
	"math"
	"math/rand"
	"slices"
	"strings"
	"testing"

	"loop.example/importhouse/impl"
)

// otherModes has numbers that are no modes.
var otherModes = []int{-1, 3, 4, 100, math.MaxInt, math.MinInt}

// loadBodies returns bodies of which some have an equal size, an equal hash, or both: 1, 2 and 3 are of one size, so are 4,
// 5 and 6, and 8 and 9, which are the same statements in another order; 4 and 5 have one hash, and so have 6 and 7.
func loadBodies() [][]impl.Stmt {
	return [][]impl.Stmt{
		nil,
		{{Kind: 3, Name: "x", Value: 1}}, {{Kind: 3, Name: "x", Value: 2}}, {{Kind: 4, Name: "y"}},
		{{Kind: 3, Name: "aah"}}, {{Kind: 3, Name: "bqa", Value: 20}},
		{{Kind: 0, Module: "doy"}}, {{Kind: 3, Name: "aa", Value: 20}, {Kind: 5}},
		{{Kind: 5}, {Kind: 2, Module: "a.b"}}, {{Kind: 2, Module: "a.b"}, {Kind: 5}},
		slices.Clone(someStmts[:8]),
	}
}

// sized is SizeOf of a valid body, done with the texts in one.
func sized(body []impl.Stmt) int {
	text := ""
	for _, s := range body {
		text += "..." + s.Module + s.Name
	}
	return len(text)
}

// compiledBy is CompileFile of valid arguments.
func compiledBy(f impl.File, mode int) impl.Compiled {
	return impl.Compiled{Root: f.Root, Module: nameAt(f), Init: f.Init, Mode: mode, Stamp: f.Stamp, Size: sized(f.Body), Hash: hashed(f.Body), Body: slices.Clone(f.Body)}
}

// isOf reports whether something is compiled of a file.
func isOf(c impl.Compiled, f impl.File) bool {
	return c.Root == f.Root && c.Module == nameAt(f) && c.Init == f.Init
}

// usableBy is IsUsable of valid arguments.
func usableBy(c impl.Compiled, f impl.File) bool {
	trusted := []bool{c.Stamp == f.Stamp && c.Size == sized(f.Body), c.Hash == hashed(f.Body), true}
	return isOf(c, f) && trusted[c.Mode]
}

// loadedBy is LoadBody of valid arguments.
func loadedBy(list []impl.Compiled, f impl.File, mode int) ([]impl.Stmt, []impl.Compiled, bool) {
	store := slices.Clone(list)
	at := slices.IndexFunc(list, func(c impl.Compiled) bool { return isOf(c, f) })
	if at >= 0 && usableBy(list[at], f) {
		return list[at].Body, store, true
	}
	if at >= 0 {
		store[at] = compiledBy(f, mode)
	} else if len(store) < 12 {
		store = append(store, compiledBy(f, mode))
	}
	return f.Body, store, false
}

func sameCompiled(a impl.Compiled, b impl.Compiled) bool {
	return a.Root == b.Root && a.Module == b.Module && a.Init == b.Init && a.Mode == b.Mode && a.Stamp == b.Stamp && a.Size == b.Size && a.Hash == b.Hash && slices.Equal(a.Body, b.Body)
}

func sameStore(a []impl.Compiled, b []impl.Compiled) bool {
	return slices.EqualFunc(a, b, sameCompiled)
}

// copyOfStore returns a store that shares no memory with another one.
func copyOfStore(list []impl.Compiled) []impl.Compiled {
	copies := slices.Clone(list)
	for i := range copies {
		copies[i].Body = slices.Clone(copies[i].Body)
	}
	return copies
}

// handStore returns a store of files of which some are those of handTree, and some are edited, in all modes.
func handStore() []impl.Compiled {
	files := handTree().Files
	files[2].Body[0] = impl.Stmt{Kind: 0, Module: "c"}
	files[3].Stamp = 3
	files[6].Body = loadBodies()[2]
	return []impl.Compiled{
		compiledBy(files[6], impl.MoTrust), compiledBy(files[0], impl.MoStamp), compiledBy(files[2], impl.MoStamp), compiledBy(files[3], impl.MoHash),
		compiledBy(impl.File{Root: 2, Name: "a"}, impl.MoTrust), compiledBy(files[1], impl.MoHash),
	}
}

// fullStore returns a store with the largest number of modules, which are those of fullTree.
func fullStore(mode int) []impl.Compiled {
	var list []impl.Compiled
	for _, f := range fullTree().Files {
		list = append(list, compiledBy(f, mode))
	}
	return list
}

// someStores returns valid stores.
func someStores() [][]impl.Compiled {
	stores := [][]impl.Compiled{nil, {}, handStore(), fullStore(0), fullStore(1), fullStore(2)}
	stores = append(stores, []impl.Compiled{
		{Module: "a", Hash: 1}, {Module: "a", Init: true, Hash: 1}, {Root: 2, Module: "a", Hash: 1}, {Module: "b", Hash: 1}, {Module: "a.b", Hash: 1},
		{Root: 2, Module: "abc.abc.zzz", Init: true, Mode: 2, Stamp: 99, Size: 6, Hash: 915345, Body: loadBodies()[4]},
	})
	for i, u := range someTrees()[:60] {
		var list []impl.Compiled
		for j, f := range u.Files {
			list = append(list, compiledBy(f, (i+j)%3))
		}
		stores = append(stores, list)
	}
	return stores
}

// otherCompiled returns what is not valid as the only one of a store. But for one thing each, most of it would be.
func otherCompiled() []impl.Compiled {
	var list []impl.Compiled
	add := func(change func(c *impl.Compiled)) {
		for _, isInit := range []bool{false, true} {
			c := impl.Compiled{Root: 1, Module: "a.b", Init: isInit, Mode: impl.MoTrust, Stamp: 7, Size: 4, Hash: 506459, Body: loadBodies()[1]}
			change(&c)
			list = append(list, c)
		}
	}
	for _, n := range append([]int{3}, otherNumbers...) {
		add(func(c *impl.Compiled) { c.Root = n })
	}
	for _, n := range otherNumbers {
		add(func(c *impl.Compiled) { c.Stamp = n })
	}
	for _, mode := range otherModes {
		add(func(c *impl.Compiled) { c.Mode = mode })
	}
	for _, s := range oddNames() {
		add(func(c *impl.Compiled) { c.Module = s })
	}
	for _, n := range []int{0, -1, 3, 5, 4 + 1000003, math.MaxInt, math.MinInt} {
		add(func(c *impl.Compiled) { c.Size = n })
	}
	for _, n := range []int{0, 1, -1, 506458, 506459 + 1000003, math.MaxInt, math.MinInt} {
		add(func(c *impl.Compiled) { c.Hash = n })
	}
	for _, body := range append(otherBodies(), nil, loadBodies()[2], loadBodies()[4]) {
		add(func(c *impl.Compiled) { c.Body = body })
	}
	for _, body := range otherBodies() {
		add(func(c *impl.Compiled) { c.Body, c.Size, c.Hash = body, -1, -1 })
		if len(body) < 20 {
			add(func(c *impl.Compiled) { c.Body, c.Size, c.Hash = body, sized(body), hashed(body) })
		}
	}
	return append(list, impl.Compiled{}, impl.Compiled{Hash: 1}, impl.Compiled{Module: "a"})
}

// otherStores returns stores that are not valid.
func otherStores() [][]impl.Compiled {
	a, twin := compiledBy(impl.File{Name: "a", Body: someStmts[:1]}, impl.MoStamp), compiledBy(impl.File{Name: "a", Stamp: 1, Body: someStmts[:2]}, impl.MoHash)
	b, pack := compiledBy(impl.File{Package: "a", Init: true}, impl.MoTrust), compiledBy(impl.File{Package: "a", Init: true, Stamp: 5}, impl.MoTrust)
	stores := [][]impl.Compiled{{a, a}, {a, twin}, {a, b, twin}, {b, pack}, {b, a, pack}, append(fullStore(0), a), append(fullStore(0), fullStore(1)[0]), append(fullStore(0)[:11], fullStore(2)[4]), make([]impl.Compiled, 1000000)}
	for i, c := range otherCompiled() {
		stores = append(stores, [][]impl.Compiled{{c}, {a, c}, {c, a}, {a, c, b}}[i%4])
	}
	return stores
}

// randomEdit returns a file with another body, another stamp, or both.
func randomEdit(f impl.File, r *rand.Rand) impl.File {
	if bodies := loadBodies(); r.Intn(3) > 0 {
		f.Body = bodies[r.Intn(len(bodies))]
	}
	if r.Intn(3) == 0 {
		f.Stamp = []int{0, 1, 99}[r.Intn(3)]
	}
	return f
}

// changedTree returns a tree after a file came, went or was edited, which is done mostly without another stamp.
func changedTree(u impl.Tree, r *rand.Rand) impl.Tree {
	v := copyOfTree(u)
	f := randomEdit(randomFile(r), r)
	at := slices.IndexFunc(v.Files, func(g impl.File) bool { return samePlace(f, g) })
	if at < 0 && len(v.Files) < 12 && r.Intn(3) > 0 {
		f.Stamp = 0
		v.Files = append(v.Files, f)
	} else if len(v.Files) > 0 && r.Intn(6) == 0 {
		v.Files = slices.Delete(v.Files, 0, 1)
	} else if len(v.Files) > 0 {
		at = r.Intn(len(v.Files))
		v.Files[at] = randomEdit(v.Files[at], r)
	}
	return v
}

// eachLoad calls a function with a store, a tree, one of its files and a mode, again and again while the tree changes.
// The store that the function returns is the next one. Some stores are pruned now and then, and others fill up.
func eachLoad(f func(list []impl.Compiled, u impl.Tree, i int, mode int) []impl.Compiled) {
	for seed := range 32 {
		r := rand.New(rand.NewSource(int64(500 + seed)))
		var list []impl.Compiled
		u := impl.Tree{}
		for range 80 {
			u = changedTree(u, r)
			if seed%3 == 2 && r.Intn(4) == 0 {
				list = slices.DeleteFunc(copyOfStore(list), func(c impl.Compiled) bool {
					return !slices.ContainsFunc(u.Files, func(g impl.File) bool { return isOf(c, g) })
				})
			}
			mode := seed % 4
			if mode == 3 {
				mode = r.Intn(3)
			}
			for range min(2, len(u.Files)) {
				list = f(list, u, r.Intn(len(u.Files)), mode)
			}
		}
	}
}

// expectLoad fails if LoadBody is not as it is told, and returns what it returns.
func expectLoad(t *testing.T, list []impl.Compiled, f impl.File, mode int) ([]impl.Stmt, []impl.Compiled, bool) {
	t.Helper()
	body, store, had := impl.LoadBody(list, f, mode)
	wantBody, wantStore, want := loadedBy(list, f, mode)
	if had != want || !slices.Equal(body, wantBody) || !sameStore(store, wantStore) {
		t.Errorf("LoadBody of %v with %v in the mode %d is %v, %v, %v, and not %v, %v, %v", f, list, mode, body, store, had, wantBody, wantStore, want)
	}
	return body, store, had
}

func TestP47WhatIsCompiledCanBeDropped(t *testing.T) {
	for _, list := range someStores() {
		if !impl.ValidStore(list) {
			t.Fatalf("%v is valid", list)
		}
		for i := range list {
			if !impl.ValidStore(slices.Delete(slices.Clone(list), i, i+1)) {
				t.Errorf("%v is not valid without the module %d", list, i)
			}
		}
	}
	for _, list := range otherStores() {
		if impl.ValidStore(list) {
			t.Errorf("%v is not valid", brief(list))
		}
	}
}

func TestP47OneModuleIsCompiledOnce(t *testing.T) {
	r := rand.New(rand.NewSource(10))
	counts := map[bool]int{}
	for range 3000 {
		var list []impl.Compiled
		want := true
		for range 1 + r.Intn(14) {
			f := randomFile(r)
			want = want && !slices.ContainsFunc(list, func(c impl.Compiled) bool { return isOf(c, f) })
			list = append(list, compiledBy(f, r.Intn(3)))
		}
		want = want && len(list) <= 12
		if counts[want]++; impl.ValidStore(list) != want {
			t.Errorf("ValidStore of %v is not %v", list, want)
		}
	}
	if counts[true] < 200 || counts[false] < 200 {
		t.Errorf("stores are valid too often, or too rarely: %v", counts)
	}
}

func TestP48SizesAddUp(t *testing.T) {
	for _, body := range append(someBodies(), loadBodies()...) {
		size := impl.SizeOf(body)
		if size != sized(body) || size < 3*len(body) {
			t.Errorf("SizeOf(%v) = %d", body, size)
		}
		for i := range len(body) + 1 {
			if impl.SizeOf(body[:i])+impl.SizeOf(body[i:]) != size {
				t.Errorf("the sizes of %v in two at %d are not %d", body, i, size)
			}
		}
	}
	for _, s := range manyStmts() {
		if size := impl.SizeOf([]impl.Stmt{s}); stmtIsValid(s) && size != sized([]impl.Stmt{s}) || !stmtIsValid(s) && size != -1 {
			t.Errorf("SizeOf(%+v) = %d", s, size)
		}
	}
	for _, body := range otherBodies() {
		if size := impl.SizeOf(body); size != -1 {
			t.Errorf("SizeOf(%v) = %d", brief(body), size)
		}
	}
}

func TestP48SizesAreTold(t *testing.T) {
	for _, c := range []struct {
		body []impl.Stmt
		want int
	}{
		{nil, 0}, {[]impl.Stmt{}, 0}, {[]impl.Stmt{{Kind: 5}}, 3}, {slices.Repeat([]impl.Stmt{{Kind: 5}}, 8), 24},
		{[]impl.Stmt{{Kind: 3, Name: "x", Value: 99}}, 4}, {[]impl.Stmt{{Kind: 0, Module: "a.b"}}, 6}, {[]impl.Stmt{{Kind: 2, Module: "abc.abc.abc"}}, 14},
		{[]impl.Stmt{{Kind: 1, Module: "a.b", Level: 3, Name: "xy"}, {Kind: 4, Name: "xy"}}, 13}, {[]impl.Stmt{{Kind: 1, Level: 1, Name: "x"}}, 4},
	} {
		if size := impl.SizeOf(c.body); size != c.want {
			t.Errorf("SizeOf(%v) = %d, and not %d", c.body, size, c.want)
		}
	}
}

func TestP49WhatIsCompiledIsUsable(t *testing.T) {
	for _, u := range someTrees() {
		for _, f := range u.Files {
			for mode := range 3 {
				c := impl.CompileFile(f, mode)
				if !sameCompiled(c, compiledBy(f, mode)) || !impl.IsUsable(c, f) || !impl.ValidStore([]impl.Compiled{c}) {
					t.Errorf("CompileFile of %v in the mode %d is %v", f, mode, c)
				}
			}
		}
	}
	f := impl.File{Root: 2, Package: "a.b", Init: true, Stamp: 99, Body: []impl.Stmt{{Kind: 3, Name: "x", Value: 1}}}
	want := impl.Compiled{Root: 2, Module: "a.b", Init: true, Mode: 1, Stamp: 99, Size: 4, Hash: 506459, Body: f.Body}
	if c := impl.CompileFile(f, impl.MoHash); !sameCompiled(c, want) {
		t.Errorf("CompileFile of %v is %v", f, c)
	}
}

func TestP49OtherFilesAreNotCompiled(t *testing.T) {
	for _, f := range otherFiles() {
		for mode := range 3 {
			if c := impl.CompileFile(f, mode); !sameCompiled(c, impl.Compiled{}) {
				t.Errorf("CompileFile of %v is %v", brief(f), brief(c))
			}
		}
	}
	for _, mode := range otherModes {
		if c := impl.CompileFile(handTree().Files[0], mode); !sameCompiled(c, impl.Compiled{}) {
			t.Errorf("CompileFile in the mode %d is %v", mode, c)
		}
	}
}

// TestP50WhatIsEqualIsTrusted checks what is compiled of some files for these files with other stamps and bodies.
func TestP50WhatIsEqualIsTrusted(t *testing.T) {
	counts := map[[2]int]int{}
	var files []impl.File
	for _, at := range []impl.File{{Name: "a"}, {Root: 1, Name: "a"}, {Package: "a", Init: true}, {Package: "a", Name: "a"}, {Package: "a.a", Init: true}, {Package: "a.a", Name: "a"}} {
		for i, body := range loadBodies() {
			at.Stamp, at.Body = 1+i%2, body
			files = append(files, at)
			at.Stamp = 3
			files = append(files, at)
		}
	}
	for _, f := range files {
		for mode := range 3 {
			c := compiledBy(f, mode)
			for _, g := range files {
				usable := impl.IsUsable(c, g)
				if usable != usableBy(c, g) {
					t.Errorf("IsUsable of %v for %v is %v", c, g, usable)
				}
				if !usable {
					continue
				}
				counts[[2]int{mode, min(1, len(f.Body))}]++
				if !samePlace(f, g) || mode == 0 && (f.Stamp != g.Stamp || impl.SizeOf(f.Body) != impl.SizeOf(g.Body)) || mode == 1 && impl.HashOf(f.Body) != impl.HashOf(g.Body) {
					t.Errorf("%v is usable for %v", c, g)
				}
			}
		}
	}
	if len(counts) != 6 {
		t.Errorf("in each mode some must be usable: %v", counts)
	}
}

func TestP50ModesTrust(t *testing.T) {
	bodies := loadBodies()
	f := impl.File{Name: "a", Stamp: 5, Body: bodies[1]}
	for i, c := range []struct {
		stamp int
		body  []impl.Stmt
		want  [3]bool
	}{
		{5, bodies[1], [3]bool{true, true, true}},
		{6, bodies[1], [3]bool{false, true, true}},    // touched alone
		{4, bodies[1], [3]bool{false, true, true}},    // older than what is compiled
		{5, bodies[2], [3]bool{true, false, true}},    // an equal stamp and size
		{5, bodies[3], [3]bool{true, false, true}},    // the same by another kind of statement
		{5, bodies[4], [3]bool{false, false, true}},   // an equal stamp, and another size
		{6, bodies[2], [3]bool{false, false, true}},   // an equal size, and another stamp
		{0, nil, [3]bool{false, false, true}},         // without statements
		{99, bodies[10], [3]bool{false, false, true}}, // as long as bodies are
	} {
		g := impl.File{Name: "a", Stamp: c.stamp, Body: c.body}
		for mode, want := range c.want {
			if usable := impl.IsUsable(compiledBy(f, mode), g); usable != want {
				t.Errorf("%d: in the mode %d it is %v", i, mode, usable)
			}
			if usable := impl.IsUsable(compiledBy(g, mode), f); usable != want {
				t.Errorf("%d: the other way round, in the mode %d, it is %v", i, mode, usable)
			}
		}
	}
}

// TestP50EqualHashesAreTrusted checks bodies that are not equal, and have one hash, with sizes that are equal or not.
func TestP50EqualHashesAreTrusted(t *testing.T) {
	bodies := loadBodies()
	for i, c := range []struct{ a, b, hash int }{{4, 5, 915345}, {6, 7, 533801}} {
		f, g := impl.File{Name: "a", Stamp: 1, Body: bodies[c.a]}, impl.File{Name: "a", Stamp: 2, Body: bodies[c.b]}
		if impl.HashOf(f.Body) != c.hash || impl.HashOf(g.Body) != c.hash || slices.Equal(f.Body, g.Body) {
			t.Fatalf("the hashes are %d and %d", impl.HashOf(f.Body), impl.HashOf(g.Body))
		}
		if !impl.IsUsable(compiledBy(f, impl.MoHash), g) || impl.IsUsable(compiledBy(f, impl.MoStamp), g) {
			t.Errorf("IsUsable of %v for %v", f, g)
		}
		if g.Stamp = 1; impl.IsUsable(compiledBy(f, impl.MoStamp), g) != (i == 0) {
			t.Errorf("IsUsable of %v for %v with one stamp", f, g)
		}
		if body, _, had := expectLoad(t, []impl.Compiled{compiledBy(f, impl.MoHash)}, g, impl.MoHash); !had || !slices.Equal(body, f.Body) {
			t.Errorf("LoadBody of %v is %v, %v", g, body, had)
		}
	}
}

func TestP50OtherArgumentsAreNotUsable(t *testing.T) {
	for _, c := range otherCompiled() {
		for _, f := range []impl.File{
			{Root: 1, Package: "a", Name: "b", Stamp: 7, Body: loadBodies()[1]},
			{Root: 1, Package: "a.b", Init: true, Stamp: 7, Body: loadBodies()[1]},
			{Root: c.Root, Package: "a", Name: "b", Stamp: c.Stamp, Body: c.Body},
			{Root: c.Root, Package: "a.b", Init: true, Stamp: c.Stamp, Body: c.Body},
			{Root: c.Root, Name: c.Module, Stamp: c.Stamp, Body: c.Body},
			{},
		} {
			if impl.IsUsable(c, f) {
				t.Errorf("%v is usable for %v", brief(c), brief(f))
			}
		}
	}
	for _, f := range otherFiles() {
		for mode := range 3 {
			for _, c := range []impl.Compiled{
				{Module: "a", Mode: mode, Hash: 1},
				{Module: "a", Init: true, Mode: mode, Hash: 1},
				{Module: "a.b", Mode: mode, Hash: 1},
				{Root: f.Root, Module: f.Package, Init: f.Init, Mode: mode, Stamp: f.Stamp, Hash: 1},
			} {
				if impl.IsUsable(c, f) {
					t.Errorf("%v is usable for %v", brief(c), brief(f))
				}
			}
		}
	}
}

func TestP51BodiesThatWereNotThereAreThoseOfFiles(t *testing.T) {
	counts := map[string]int{}
	eachLoad(func(list []impl.Compiled, u impl.Tree, i int, mode int) []impl.Compiled {
		f := u.Files[i]
		body, store, had := expectLoad(t, list, f, mode)
		if !impl.ValidStore(store) || !had && !slices.Equal(body, f.Body) {
			t.Errorf("LoadBody of %v with %v is %v, %v", f, list, body, store)
		}
		known := slices.ContainsFunc(list, func(c impl.Compiled) bool { return isOf(c, f) })
		switch {
		case had && slices.Equal(body, f.Body):
			counts["right"]++
		case had:
			counts["wrong"]++
		case known && len(list) == 12:
			counts["replaced in a full one"]++
		case known:
			counts["replaced"]++
		case len(list) == 12:
			counts["full"]++
		default:
			counts["new"]++
		}
		return store
	})
	for _, what := range []string{"right", "wrong", "replaced in a full one", "replaced", "full", "new"} {
		if counts[what] < 100 {
			t.Errorf("what is loaded is too rarely %s: %v", what, counts)
		}
	}
}

func TestP51OtherArgumentsLoadNothing(t *testing.T) {
	expectNothing := func(list []impl.Compiled, f impl.File, mode int) {
		t.Helper()
		if body, store, had := impl.LoadBody(list, f, mode); len(body) != 0 || len(store) != 0 || had {
			t.Errorf("LoadBody of %v with %v in the mode %d is %v, %v, %v", brief(f), brief(list), mode, brief(body), brief(store), had)
		}
	}
	for _, list := range otherStores() {
		for mode := range 3 {
			expectNothing(list, impl.File{Name: "a", Body: someStmts[:1]}, mode)
			expectNothing(list, impl.File{Root: 2, Name: "q", Body: someStmts[:1]}, mode)
		}
	}
	for _, f := range otherFiles() {
		for mode := range 3 {
			expectNothing(nil, f, mode)
			expectNothing(handStore(), f, mode)
		}
	}
	// In the mode that it has, what is compiled would be usable.
	for _, mode := range otherModes {
		expectNothing(nil, handTree().Files[0], mode)
		expectNothing(handStore(), handTree().Files[0], mode)
		expectNothing(handStore(), handTree().Files[6], mode)
	}
}

func TestP52WhatWasLoadedIsThere(t *testing.T) {
	full := 0
	eachLoad(func(list []impl.Compiled, u impl.Tree, i int, mode int) []impl.Compiled {
		f := u.Files[i]
		body, once, _ := impl.LoadBody(list, f, mode)
		for second := range 3 {
			again, twice, had := expectLoad(t, once, f, second)
			there := slices.ContainsFunc(once, func(c impl.Compiled) bool { return isOf(c, f) })
			if !slices.Equal(again, body) || had != there || !sameStore(twice, once) {
				t.Errorf("LoadBody of %v with %v is %v, and then %v with %v", f, once, body, again, twice)
			}
			if !had && len(once) != 12 {
				t.Errorf("%v is not in %v, and there is room", f, once)
			}
			if !had {
				full++
			}
		}
		return once
	})
	if full < 100 {
		t.Errorf("only %d stores are full", full)
	}
}

func TestP52FullStores(t *testing.T) {
	late := impl.File{Root: 1, Name: "q", Stamp: 3, Body: loadBodies()[1]}
	for mode := range 3 {
		// Without room it is run, and not kept, again and again.
		for range 2 {
			if body, store, had := expectLoad(t, fullStore(0), late, mode); had || !slices.Equal(body, late.Body) || !sameStore(store, fullStore(0)) {
				t.Errorf("with a full store it is %v, %v, %v", body, store, had)
			}
		}
		// With room for one, it is the last one.
		if _, store, had := expectLoad(t, fullStore(0)[1:], late, mode); had || !sameStore(store, append(fullStore(0)[1:], compiledBy(late, mode))) {
			t.Errorf("with room for one the store is %v", store)
		}
		// What a full store has is still replaced, in its place.
		for i, f := range fullTree().Files {
			want := fullStore(0)
			f.Stamp, f.Body = 50, loadBodies()[1]
			want[i] = compiledBy(f, mode)
			if body, store, had := expectLoad(t, fullStore(0), f, mode); had || !slices.Equal(body, f.Body) || !sameStore(store, want) {
				t.Errorf("the module %d of a full store is %v, %v, %v", i, body, store, had)
			}
		}
	}
}

// TestP52ModesStay checks that what is used keeps its mode, and that what is replaced gets the new one.
func TestP52ModesStay(t *testing.T) {
	bodies := loadBodies()
	f := impl.File{Package: "a", Name: "b", Stamp: 1, Body: bodies[1]}
	quiet, loud := f, f
	quiet.Body, loud.Body, loud.Stamp = bodies[2], bodies[2], 2
	for was := range 3 {
		for mode := range 3 {
			list := []impl.Compiled{compiledBy(impl.File{Package: "a", Init: true}, 0), compiledBy(f, was), compiledBy(impl.File{Root: 1, Package: "a", Name: "b"}, 0)}
			if _, store, had := expectLoad(t, list, f, mode); !had || !sameStore(store, list) {
				t.Errorf("what was compiled by %d is loaded by %d: %v, %v", was, mode, store, had)
			}
			if body, store, had := expectLoad(t, list, quiet, mode); had != (was != impl.MoHash) || slices.Equal(body, f.Body) != had || (store[1].Mode == was) != (had || was == mode) {
				t.Errorf("after a quiet edit, what was compiled by %d is loaded by %d: %v, %v", was, mode, store, had)
			}
			if body, store, had := expectLoad(t, list, loud, mode); had != (was == impl.MoTrust) || slices.Equal(body, f.Body) != had || len(store) != 3 || !had && !sameCompiled(store[1], compiledBy(loud, mode)) {
				t.Errorf("after a loud edit, what was compiled by %d is loaded by %d: %v, %v", was, mode, store, had)
			}
		}
	}
}

func TestP53HashesTellBodies(t *testing.T) {
	hits, misses := 0, 0
	eachLoad(func(list []impl.Compiled, u impl.Tree, i int, _ int) []impl.Compiled {
		for _, f := range u.Files {
			body, store, had := expectLoad(t, list, f, impl.MoHash)
			if impl.HashOf(body) != impl.HashOf(f.Body) {
				t.Errorf("LoadBody of %v with %v is %v", f, list, body)
			}
			if list = store; had {
				hits++
			} else {
				misses++
			}
		}
		return list
	})
	if hits < 1000 || misses < 1000 {
		t.Errorf("bodies are there too often, or too rarely: %d, %d", hits, misses)
	}
}

func TestP54CompiledTreesAreRight(t *testing.T) {
	for _, u := range someTrees() {
		for mode := range 3 {
			list := impl.CompileTree(u, mode)
			if !impl.ValidStore(list) || len(list) != len(u.Files) || len(impl.WrongFiles(list, u)) != 0 {
				t.Errorf("CompileTree of %v is %v", u, list)
			}
			for i, f := range u.Files {
				if i >= len(list) || !sameCompiled(list[i], compiledBy(f, mode)) {
					t.Errorf("CompileTree of %v in the mode %d is %v", u, mode, list)
					break
				}
				if body, store, had := expectLoad(t, list, f, (mode+1)%3); !had || !slices.Equal(body, f.Body) || !sameStore(store, list) {
					t.Errorf("LoadBody of %v with CompileTree is %v", f, body)
				}
			}
		}
	}
}

func TestP54OtherTreesAreNotCompiled(t *testing.T) {
	for _, u := range otherTrees() {
		for mode := range 3 {
			if list := impl.CompileTree(u, mode); len(list) != 0 {
				t.Errorf("CompileTree of %v is %v", brief(u), brief(list))
			}
		}
	}
	for _, mode := range otherModes {
		if list := impl.CompileTree(handTree(), mode); len(list) != 0 {
			t.Errorf("CompileTree in the mode %d is %v", mode, list)
		}
	}
}

func TestP55WrongFilesRunSomethingElse(t *testing.T) {
	counts := map[int]int{}
	eachLoad(func(list []impl.Compiled, u impl.Tree, i int, mode int) []impl.Compiled {
		var want []int
		for j, f := range u.Files {
			if body, _, _ := impl.LoadBody(list, f, mode); !slices.Equal(body, f.Body) {
				want = append(want, j)
			}
		}
		wrong := impl.WrongFiles(list, u)
		if counts[min(2, len(wrong))]++; !slices.Equal(wrong, want) {
			t.Errorf("WrongFiles of %v with %v is %v, and not %v", u, list, wrong, want)
		}
		_, store, _ := impl.LoadBody(list, u.Files[i], mode)
		return store
	})
	if counts[0] < 200 || counts[1] < 200 || counts[2] < 200 {
		t.Errorf("files are wrong too often, or too rarely: %v", counts)
	}
}

func TestP55WrongFilesAreTold(t *testing.T) {
	if wrong := impl.WrongFiles(handStore(), handTree()); !slices.Equal(wrong, []int{2, 6}) {
		t.Errorf("WrongFiles is %v", wrong)
	}
	u := impl.Tree{}
	for i, body := range loadBodies() {
		u.Files = append(u.Files, impl.File{Root: i % 3, Package: "a", Name: string(rune('a' + i)), Stamp: 1, Body: body})
	}
	// Each file has the body of the next one, with the same stamp.
	edited := copyOfTree(u)
	for i := range edited.Files {
		edited.Files[i].Body = slices.Clone(u.Files[(i+1)%len(u.Files)].Body)
	}
	for mode, want := range [][]int{{1, 2, 4, 5, 8}, {4, 6}, {0, 1, 2, 3, 4, 5, 6, 7, 8, 9, 10}} {
		if wrong := impl.WrongFiles(impl.CompileTree(u, mode), edited); !slices.Equal(wrong, want) {
			t.Errorf("WrongFiles in the mode %d is %v, and not %v", mode, wrong, want)
		}
	}
	if wrong := impl.WrongFiles(nil, u); len(wrong) != 0 {
		t.Errorf("WrongFiles without a store is %v", wrong)
	}
	if wrong := impl.WrongFiles(impl.CompileTree(u, impl.MoTrust), impl.Tree{}); len(wrong) != 0 {
		t.Errorf("WrongFiles without files is %v", wrong)
	}
}

func TestP55OtherArgumentsHaveNoWrongFiles(t *testing.T) {
	f := impl.File{Name: "a", Body: loadBodies()[2]}
	for _, list := range otherStores() {
		if wrong := impl.WrongFiles(list, impl.Tree{Files: []impl.File{f}}); len(wrong) != 0 {
			t.Errorf("WrongFiles with %v is %v", brief(list), wrong)
		}
	}
	trusted := []impl.Compiled{
		{Module: "a", Mode: 2, Hash: 1}, {Module: "a", Init: true, Mode: 2, Hash: 1}, {Root: 1, Module: "b.c", Mode: 2, Size: 4, Hash: hashed(f.Body), Body: f.Body}, {Module: "p.a", Mode: 2, Size: 3, Hash: hashed([]impl.Stmt{{Kind: 5}}), Body: []impl.Stmt{{Kind: 5}}},
	}
	if !impl.ValidStore(trusted) {
		t.Fatalf("%v is valid", trusted)
	}
	for _, u := range otherTrees() {
		if wrong := impl.WrongFiles(trusted, u); len(wrong) != 0 {
			t.Errorf("WrongFiles of %v is %v", brief(u), wrong)
		}
	}
}

func TestP56PrunedStoresAreAsGood(t *testing.T) {
	dropped, kept := 0, 0
	eachLoad(func(list []impl.Compiled, u impl.Tree, i int, mode int) []impl.Compiled {
		pruned := impl.PruneStore(list, u)
		want := slices.DeleteFunc(slices.Clone(list), func(c impl.Compiled) bool {
			return !slices.ContainsFunc(u.Files, func(f impl.File) bool { return isOf(c, f) })
		})
		if !sameStore(pruned, want) || !impl.ValidStore(pruned) {
			t.Errorf("PruneStore of %v with %v is %v", list, u, pruned)
		}
		dropped += len(list) - len(want)
		kept += len(want)
		for _, f := range u.Files {
			body, _, had := impl.LoadBody(list, f, mode)
			if again, _, hadAgain := impl.LoadBody(pruned, f, mode); !slices.Equal(again, body) || hadAgain != had {
				t.Errorf("LoadBody of %v with %v is %v, and with PruneStore %v", f, list, body, again)
			}
		}
		_, store, _ := impl.LoadBody(list, u.Files[i], mode)
		return store
	})
	if dropped < 1000 || kept < 1000 {
		t.Errorf("modules are dropped too often, or too rarely: %d, %d", dropped, kept)
	}
}

func TestP56WhatIsGoneIsPruned(t *testing.T) {
	want := slices.Delete(handStore(), 4, 5)
	if pruned := impl.PruneStore(handStore(), handTree()); !sameStore(pruned, want) {
		t.Errorf("PruneStore is %v", pruned)
	}
	// A file of the same name in another root, or one that is a package where the other one is not, is another one.
	for i, u := range []impl.Tree{
		{}, {Files: []impl.File{{Root: 1, Name: "a"}}}, {Files: []impl.File{{Package: "a", Init: true}}}, {Files: []impl.File{{Package: "a", Name: "a"}}}, {Files: []impl.File{{Name: "b"}, {Name: "a", Stamp: 9, Body: someStmts[:8]}}},
	} {
		list := []impl.Compiled{compiledBy(impl.File{Name: "a"}, impl.MoStamp)}
		if pruned := impl.PruneStore(list, u); len(pruned) != i/4 {
			t.Errorf("PruneStore with the tree %d is %v", i, pruned)
		}
	}
}

func TestP56OtherArgumentsArePrunedToNothing(t *testing.T) {
	for _, list := range otherStores() {
		for _, u := range []impl.Tree{{Files: []impl.File{{Name: "a"}, {Package: "a", Init: true}}}, fullTree()} {
			if pruned := impl.PruneStore(list, u); len(pruned) != 0 {
				t.Errorf("PruneStore of %v is %v", brief(list), brief(pruned))
			}
		}
	}
	var list []impl.Compiled
	for _, f := range []impl.File{{Name: "a"}, {Package: "a", Init: true}, {Root: 1, Package: "b", Name: "c"}, {Name: "zzz"}, {Package: "p", Name: "a"}, {Package: "a", Name: "b"}} {
		list = append(list, compiledBy(f, impl.MoTrust))
	}
	for _, u := range otherTrees() {
		if pruned := impl.PruneStore(list, u); len(pruned) != 0 {
			t.Errorf("PruneStore with %v is %v", brief(u), pruned)
		}
	}
}

// spoilBody changes all that a body has, and what lies behind it in its memory.
func spoilBody(body []impl.Stmt) {
	for i := range body[:cap(body)] {
		body[:cap(body)][i] = impl.Stmt{Kind: -1, Name: "spoilt"}
	}
}

// spoilStore changes all that a store has, and what lies behind it in its memory.
func spoilStore(list []impl.Compiled) {
	for i := range list[:cap(list)] {
		spoilBody(list[:cap(list)][i].Body)
		list[:cap(list)][i] = impl.Compiled{Root: -1, Module: "spoilt"}
	}
}

// TestCompiledResultsAreFresh checks that bodies and stores share no memory with arguments, which stay as they are. All
// bodies of the arguments lie in one memory.
func TestCompiledResultsAreFresh(t *testing.T) {
	body := append(make([]impl.Stmt, 0, 16), someStmts[:4]...)
	files := append(make([]impl.File, 0, 16), impl.File{Name: "a", Body: body[:2]}, impl.File{Name: "b", Body: body[:3]}, impl.File{Name: "c", Body: body[1:1]}, impl.File{Name: "d", Body: body[1:]})
	u := impl.Tree{Files: files}
	list := make([]impl.Compiled, 0, 16)
	for _, f := range files[:3] {
		c := compiledBy(f, impl.MoStamp)
		c.Body = f.Body
		list = append(list, c)
	}
	loud := files[1]
	loud.Stamp = 5
	wantTree, wantStore := copyOfTree(u), copyOfStore(list)
	for i, call := range []func() ([]impl.Stmt, []impl.Compiled){
		func() ([]impl.Stmt, []impl.Compiled) { return impl.CompileFile(files[1], 1).Body, nil },
		func() ([]impl.Stmt, []impl.Compiled) { return impl.CompileFile(files[2], 1).Body, nil },
		func() ([]impl.Stmt, []impl.Compiled) { return nil, impl.CompileTree(u, 1) },
		func() ([]impl.Stmt, []impl.Compiled) { return nil, impl.PruneStore(list, u) },
		func() ([]impl.Stmt, []impl.Compiled) { return nil, impl.PruneStore(list, impl.Tree{Files: files[1:2]}) },
		func() ([]impl.Stmt, []impl.Compiled) { b, s, _ := impl.LoadBody(list, files[0], 1); return b, s },
		func() ([]impl.Stmt, []impl.Compiled) { b, s, _ := impl.LoadBody(list, files[3], 1); return b, s },
		func() ([]impl.Stmt, []impl.Compiled) { b, s, _ := impl.LoadBody(list, loud, 1); return b, s },
	} {
		loaded, store := call()
		wantLoaded, before := slices.Clone(loaded), copyOfStore(store)
		for j := range store {
			spoilBody(store[j].Body)
			if rest := slices.Delete(copyOfStore(store), j, j+1); !sameStore(rest, slices.Delete(copyOfStore(before), j, j+1)) || !slices.Equal(loaded, wantLoaded) {
				t.Errorf("the call %d has results that share memory", i)
			}
			store[j].Body = slices.Clone(before[j].Body)
		}
		again, other := call()
		spoilBody(again)
		if !sameStore(other, before) {
			t.Errorf("the call %d has a body that shares memory with the store", i)
		}
		spoilStore(other)
		if !sameTree(u, wantTree) || !sameStore(list, wantStore) || !slices.Equal(body, someStmts[:4]) || !sameCompiled(list[:4][3], impl.Compiled{}) || !slices.Equal(body[:5][4:], []impl.Stmt{{}}) {
			t.Fatalf("the call %d shares memory with its arguments, or changes them", i)
		}
	}
}

func TestCompiledLimits(t *testing.T) {
	for i, c := range [][2]int{{impl.MaxCompiled, 12}, {impl.MoStamp, 0}, {impl.MoHash, 1}, {impl.MoTrust, 2}} {
		if c[0] != c[1] {
			t.Errorf("the constant %d is %d, and not %d", i, c[0], c[1])
		}
	}
	longest := slices.Repeat([]impl.Stmt{{Kind: 1, Module: strings.Repeat("abc.", 2) + "abc", Level: 3, Name: "abc"}}, 8)
	if size := impl.SizeOf(longest); size != 136 {
		t.Errorf("the largest size is %d", size)
	}
}

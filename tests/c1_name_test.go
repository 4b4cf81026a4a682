package tests

import (
	"math"
	"regexp"
	"slices"
	"strings"
	"testing"

	"loop.example/importhouse/impl"
)

// someParts has parts that begin alike, the shortest and the longest ones, and the letters at both ends.
var someParts = []string{"a", "ab", "abc", "b", "zzz"}

// noParts has texts that are no parts, some of which are names.
var noParts = []string{
	"", ".", "..", "a.", ".a", "a.b", "a.b.c", "abcd", "zzzz", "A", "Z", "aB", "a1", "0", "-", "*", "/", "_",
	"a b", " a", "a ", "a\n", "\n", "\x00", "a\x00", "\xff", "a\xff", "é", "aé", "ａ", "`", "{", "@", "[",
}

// noNames has texts that are no names.
var noNames = []string{
	"", ".", "..", "...", "a.", ".a", ".a.b", "a.b.", "a..b", "a...b", "a.b..c", "a.b.c.", "a.b.c.d", "aaa.bbb.ccc.d",
	"abcd", "a.bcde", "abcd.a.b", "aaa.bbb.cccc", "aaa.bbbb.ccc", "A", "a.B", "a.b.C", "a1", "a.1", "a b", " a", "a ", "a. b", "a .b",
	"a\n", "a.b\n", "a\x00", "\xff", "a.\xff", "é", "a.é", "a/b", "a-b", "*", "-", "`", "{", "a.`", "a.{", "a。b",
}

// otherLevels has numbers that are no levels.
var otherLevels = []int{-1, -2, 5, 6, 100, math.MaxInt, math.MinInt}

var namePattern = regexp.MustCompile(`^[a-z]{1,3}(\.[a-z]{1,3}){0,2}\z`)

// someNames returns all names of someParts.
func someNames() []string {
	var names []string
	for _, a := range someParts {
		names = append(names, a)
		for _, b := range someParts {
			names = append(names, a+"."+b)
			for _, c := range someParts {
				names = append(names, a+"."+b+"."+c)
			}
		}
	}
	return names
}

// somePackages returns "" and all names of someParts.
func somePackages() []string {
	return append([]string{""}, someNames()...)
}

// longTexts returns texts that are far too long for a name.
func longTexts() []string {
	return []string{strings.Repeat("a", 1000000), strings.Repeat(".", 1000000), strings.Repeat("a.", 1000000) + "a"}
}

func TestP1PartsAreNames(t *testing.T) {
	for _, s := range append(slices.Clone(someParts), "z", "az", "mno", "xyz") {
		if !impl.ValidPart(s) || !impl.ValidName(s) || !slices.Equal(impl.PartsOf(s), []string{s}) {
			t.Errorf("%q is a part, and a name of one part", s)
		}
		if impl.ValidPart(s+".") || impl.ValidName(s+".") || impl.ValidPart("."+s) || impl.ValidName("."+s) {
			t.Errorf("%q is no part with a dot", s)
		}
	}
	for _, s := range append(longTexts(), noParts...) {
		if impl.ValidPart(s) {
			t.Errorf("%.20q is no part", s)
		}
	}
}

func TestP1EachLetterIsAPart(t *testing.T) {
	for b := 0; b < 256; b++ {
		s := string([]byte{byte(b)})
		want := 'a' <= b && b <= 'z'
		if impl.ValidPart(s) != want || impl.ValidName(s) != want || impl.ValidPart("a"+s) != want || impl.ValidName("a."+s+"a") != want {
			t.Errorf("the byte %d: %v", b, !want)
		}
	}
}

func TestP1NamesAreTextsOfParts(t *testing.T) {
	for _, s := range append(longTexts(), noNames...) {
		if impl.ValidName(s) {
			t.Errorf("%.20q is no name", s)
		}
	}
	for _, s := range someNames() {
		if !impl.ValidName(s) {
			t.Errorf("%q is a name", s)
		}
	}
	texts := []string{""}
	for len(texts[0]) < 8 {
		var longer []string
		for _, s := range texts {
			if impl.ValidName(s) != namePattern.MatchString(s) {
				t.Errorf("ValidName(%q) = %v", s, impl.ValidName(s))
			}
			longer = append(longer, s+"a", s+".", s+"A")
		}
		texts = longer
	}
}

func TestP2NamesHaveNamesAboveThem(t *testing.T) {
	for _, s := range someNames() {
		p, last := impl.ParentOf(s), impl.LastOf(s)
		if p != "" && !impl.ValidName(p) || impl.ChildOf(p, last) != s {
			t.Errorf("%q has the parent %q and the last part %q", s, p, last)
		}
	}
	for s, want := range map[string]string{"a": "", "abc": "", "a.b": "a", "ab.abc": "ab", "a.b.c": "a.b", "abc.z.abc": "abc.z", "aaa.bbb.ccc": "aaa.bbb"} {
		if impl.ParentOf(s) != want {
			t.Errorf("ParentOf(%q) = %q", s, impl.ParentOf(s))
		}
	}
	for _, s := range append(longTexts(), noNames...) {
		if impl.ParentOf(s) != "" {
			t.Errorf("ParentOf(%.20q) = %q", s, impl.ParentOf(s))
		}
	}
}

func TestP3PartsAreJoined(t *testing.T) {
	for _, s := range someNames() {
		parts := impl.PartsOf(s)
		if impl.JoinParts(parts) != s || len(parts) != strings.Count(s, ".")+1 || !slices.Equal(parts, strings.Split(s, ".")) {
			t.Errorf("PartsOf(%q) = %q", s, parts)
		}
	}
	for _, s := range append(longTexts(), noNames...) {
		if len(impl.PartsOf(s)) != 0 {
			t.Errorf("PartsOf(%.20q) = %.20q", s, impl.PartsOf(s))
		}
	}
}

func TestP4JoinedNamesFallApart(t *testing.T) {
	for _, a := range someParts {
		for _, b := range someParts {
			for _, c := range someParts {
				for n := 1; n <= 3; n++ {
					parts := []string{a, b, c}[:n]
					s := impl.JoinParts(parts)
					if s != strings.Join(parts, ".") || !slices.Equal(impl.PartsOf(s), parts) {
						t.Errorf("JoinParts(%q) = %q", parts, s)
					}
				}
			}
		}
	}
}

func TestP4OtherPartsAreNotJoined(t *testing.T) {
	lists := [][]string{nil, {}, {"a", "b", "c", "d"}, {"a.b", "c"}, {"a", "b.c"}, make([]string, 100000)}
	for _, s := range noParts {
		lists = append(lists, []string{s}, []string{s, "a"}, []string{"a", s}, []string{"a", s, "b"}, []string{"a", "b", s})
	}
	for _, parts := range lists {
		if s := impl.JoinParts(parts); s != "" {
			t.Errorf("JoinParts(%q) = %q", parts, s)
		}
	}
}

func TestP5ParentsAreAbove(t *testing.T) {
	for _, s := range someNames() {
		p := impl.ParentOf(s)
		if !impl.IsUnder(s, p) || len(impl.PartsOf(p)) != len(impl.PartsOf(s))-1 {
			t.Errorf("ParentOf(%q) = %q", s, p)
		}
	}
}

func TestP6TheLastPartIsTheLast(t *testing.T) {
	for _, s := range someNames() {
		last, parts := impl.LastOf(s), impl.PartsOf(s)
		if !impl.ValidPart(last) || last != parts[len(parts)-1] || last != s[strings.LastIndex(s, ".")+1:] {
			t.Errorf("LastOf(%q) = %q", s, last)
		}
	}
	for _, s := range append(longTexts(), noNames...) {
		if impl.LastOf(s) != "" {
			t.Errorf("LastOf(%.20q) = %q", s, impl.LastOf(s))
		}
	}
}

func TestP7ChildrenHaveParents(t *testing.T) {
	for _, p := range somePackages() {
		for _, s := range someParts {
			child := impl.ChildOf(p, s)
			if len(impl.PartsOf(p)) == impl.MaxParts {
				if child != "" {
					t.Errorf("ChildOf(%q, %q) = %q", p, s, child)
				}
			} else if child != strings.TrimPrefix(p+"."+s, ".") || impl.ParentOf(child) != p || impl.LastOf(child) != s {
				t.Errorf("ChildOf(%q, %q) = %q", p, s, child)
			}
		}
	}
}

func TestP7OtherChildrenAreNone(t *testing.T) {
	for _, s := range append(longTexts(), noParts...) {
		for _, p := range []string{"", "a", "a.b", "a.b.c"} {
			if impl.ChildOf(p, s) != "" {
				t.Errorf("ChildOf(%q, %.20q) = %.20q", p, s, impl.ChildOf(p, s))
			}
		}
	}
	for _, p := range append(longTexts(), noNames...) {
		if p != "" && impl.ChildOf(p, "a") != "" {
			t.Errorf("ChildOf(%.20q, a) = %.20q", p, impl.ChildOf(p, "a"))
		}
	}
}

func TestP8NamesAreAboveEachOther(t *testing.T) {
	for _, s := range someNames() {
		names := impl.NamesAbove(s)
		above := ""
		for _, name := range names {
			if impl.ParentOf(name) != above || !impl.ValidName(name) {
				t.Errorf("NamesAbove(%q) = %q", s, names)
			}
			above = name
		}
		if above != s || len(names) != len(impl.PartsOf(s)) {
			t.Errorf("NamesAbove(%q) = %q", s, names)
		}
	}
	if names := impl.NamesAbove("abc.a.zzz"); !slices.Equal(names, []string{"abc", "abc.a", "abc.a.zzz"}) {
		t.Errorf("NamesAbove = %q", names)
	}
	for _, s := range append(longTexts(), noNames...) {
		if len(impl.NamesAbove(s)) != 0 {
			t.Errorf("NamesAbove(%.20q) = %.20q", s, impl.NamesAbove(s))
		}
	}
}

func TestP9UnderIsAnOrder(t *testing.T) {
	for _, s := range someNames() {
		above := impl.NamesAbove(s)
		for _, p := range somePackages() {
			under := impl.IsUnder(s, p)
			if under != (p == "" || slices.Contains(above, p)) {
				t.Errorf("IsUnder(%q, %q) = %v", s, p, under)
			}
			if p != "" && (under && impl.IsUnder(p, s)) != (s == p) {
				t.Errorf("%q and %q are under each other", s, p)
			}
		}
	}
}

func TestP9NamesThatBeginAlikeAreNotUnder(t *testing.T) {
	for _, c := range []struct {
		s, p string
		want bool
	}{
		{"ab", "a", false}, {"ab.c", "a", false}, {"a.bc", "a.b", false}, {"a.bc.d", "a.b", false}, {"a", "ab", false}, {"a", "a.b", false}, {"b.a", "a", false},
		{"a", "", true}, {"a.b.c", "", true}, {"a", "a", true}, {"a.b.c", "a", true}, {"a.b.c", "a.b", true}, {"a.b.c", "a.b.c", true},
	} {
		if impl.IsUnder(c.s, c.p) != c.want {
			t.Errorf("IsUnder(%q, %q) = %v", c.s, c.p, !c.want)
		}
	}
}

func TestP9OtherTextsAreNotUnder(t *testing.T) {
	for _, s := range append(longTexts(), noNames...) {
		for _, p := range []string{"", "a", "a.b", s} {
			if impl.IsUnder(s, p) {
				t.Errorf("IsUnder(%.20q, %.20q)", s, p)
			}
		}
		if s != "" && (impl.IsUnder("a", s) || impl.IsUnder("a.b.c", s)) {
			t.Errorf("a name is under %.20q", s)
		}
	}
}

// resolved is ResolveName with arguments that are in order, done with the parts as a list.
func resolved(p string, level int, s string) string {
	if level == 0 {
		return s
	}
	parts := strings.Split(p, ".")
	if p == "" || level > len(parts) {
		return ""
	}
	parts = parts[:len(parts)-level+1]
	if s != "" {
		parts = append(parts, strings.Split(s, ".")...)
	}
	if len(parts) > 3 {
		return ""
	}
	return strings.Join(parts, ".")
}

func TestP10DotsGoUp(t *testing.T) {
	for _, p := range somePackages() {
		if impl.ResolveName(p, 1, "") != p {
			t.Errorf("ResolveName(%q, 1, \"\") = %q", p, impl.ResolveName(p, 1, ""))
		}
		for _, s := range somePackages() {
			for level := 0; level <= 4; level++ {
				name := impl.ResolveName(p, level, s)
				if name != resolved(p, level, s) {
					t.Errorf("ResolveName(%q, %d, %q) = %q", p, level, s, name)
				}
				if level > 1 && name != impl.ResolveName(impl.ParentOf(p), level-1, s) {
					t.Errorf("ResolveName(%q, %d, %q) = %q, and not as in the package above", p, level, s, name)
				}
			}
		}
	}
}

func TestP10NamesAreResolved(t *testing.T) {
	for _, c := range []struct {
		p     string
		level int
		s     string
		want  string
	}{
		{"", 0, "a", "a"}, {"", 0, "", ""}, {"a", 0, "", ""}, {"a.b.c", 0, "x.y.z", "x.y.z"},
		{"", 1, "", ""}, {"", 1, "a", ""}, {"", 2, "a", ""}, {"", 4, "", ""},
		{"a", 1, "b.c", "a.b.c"}, {"a", 1, "b.c.d", ""}, {"a", 2, "", ""}, {"a", 2, "b", ""},
		{"a.b.c", 1, "", "a.b.c"}, {"a.b.c", 1, "d", ""}, {"a.b.c", 2, "d", "a.b.d"}, {"a.b.c", 3, "d.e", "a.d.e"},
		{"a.b.c", 3, "", "a"}, {"a.b.c", 3, "x.y.z", ""}, {"a.b.c", 4, "", ""}, {"a.b.c", 4, "d", ""},
	} {
		if name := impl.ResolveName(c.p, c.level, c.s); name != c.want {
			t.Errorf("ResolveName(%q, %d, %q) = %q", c.p, c.level, c.s, name)
		}
	}
}

func TestP10OtherNamesAreNotResolved(t *testing.T) {
	for _, level := range otherLevels {
		for _, s := range []string{"", "c", "c.d"} {
			for _, p := range []string{"", "a", "a.b.c"} {
				if name := impl.ResolveName(p, level, s); name != "" {
					t.Errorf("ResolveName(%q, %d, %q) = %q", p, level, s, name)
				}
			}
		}
	}
	for _, text := range append(longTexts(), noNames...) {
		for level := 0; text != "" && level <= 4; level++ {
			if impl.ResolveName(text, level, "a") != "" || impl.ResolveName(text, level, "") != "" || impl.ResolveName("a.b.c", level, text) != "" || impl.ResolveName("", level, text) != "" {
				t.Errorf("ResolveName with %.20q and %d", text, level)
			}
		}
	}
}

func TestP11RelativeNamesLeadBack(t *testing.T) {
	for _, p := range somePackages() {
		for _, s := range someNames() {
			level, rest := impl.RelativeName(p, s)
			if level == 0 && rest != "" || level > 0 && impl.ResolveName(p, level, rest) != s {
				t.Errorf("RelativeName(%q, %q) = %d, %q", p, s, level, rest)
			}
			if least := leastLevel(p, s); level != least {
				t.Errorf("RelativeName(%q, %q) = %d, and not %d", p, s, level, least)
			}
		}
	}
}

// leastLevel returns the least level, at least 1, with which some rest leads from a package to a name; 0 if there is none.
func leastLevel(p string, s string) int {
	parts := strings.Split(s, ".")
	for level := 1; level <= 4; level++ {
		for i := range len(parts) + 1 {
			if impl.ResolveName(p, level, strings.Join(parts[i:], ".")) == s {
				return level
			}
		}
	}
	return 0
}

func TestP11RelativeNamesAreTold(t *testing.T) {
	for _, c := range []struct {
		p, s  string
		level int
		rest  string
	}{
		{"", "a", 0, ""}, {"b", "a", 0, ""}, {"a", "ab", 0, ""}, {"ab", "a", 0, ""}, {"a.b", "ab.b", 0, ""},
		{"a", "a", 1, ""}, {"a", "a.b", 1, "b"}, {"a", "a.b.c", 1, "b.c"}, {"a.b", "a.bc", 2, "bc"}, {"a.b", "a", 2, ""},
		{"a.b.c", "a.b.c", 1, ""}, {"a.b.c", "a.b.d", 2, "d"}, {"a.b.c", "a.b", 2, ""}, {"a.b.c", "a.d.e", 3, "d.e"}, {"a.b.c", "a", 3, ""}, {"a.b.c", "b", 0, ""},
	} {
		if level, rest := impl.RelativeName(c.p, c.s); level != c.level || rest != c.rest {
			t.Errorf("RelativeName(%q, %q) = %d, %q", c.p, c.s, level, rest)
		}
	}
}

func TestP11OtherNamesAreNotRelative(t *testing.T) {
	for _, text := range append(longTexts(), noNames...) {
		for _, p := range []string{"", "a", "a.b.c", text} {
			if level, rest := impl.RelativeName(p, text); level != 0 || rest != "" {
				t.Errorf("RelativeName(%.20q, %.20q) = %d, %q", p, text, level, rest)
			}
		}
		if level, rest := impl.RelativeName(text, "a"); level != 0 || rest != "" {
			t.Errorf("RelativeName(%.20q, a) = %d, %q", text, level, rest)
		}
	}
}

func TestP12WhatIsCommonIsAboveBoth(t *testing.T) {
	names := someNames()
	for _, a := range names {
		for _, b := range names {
			common := impl.CommonPackage(a, b)
			if common != impl.CommonPackage(b, a) {
				t.Errorf("CommonPackage(%q, %q) = %q, and not the other way round", a, b, common)
			}
			longest := ""
			for _, name := range impl.NamesAbove(a) {
				if impl.IsUnder(a, name) && impl.IsUnder(b, name) && len(name) > len(longest) {
					longest = name
				}
			}
			if common != longest {
				t.Errorf("CommonPackage(%q, %q) = %q, and not %q", a, b, common, longest)
			}
		}
	}
}

func TestP12CommonPackagesAreTold(t *testing.T) {
	for _, c := range []struct{ a, b, want string }{
		{"a", "a", "a"}, {"a", "b", ""}, {"a", "ab", ""}, {"a.b", "ab.b", ""}, {"a", "a.b.c", "a"}, {"a.b", "a.bc", "a"}, {"a.b.c", "a.b.cd", "a.b"},
		{"a.b.c", "a.b.c", "a.b.c"}, {"a.b.c", "a.x.c", "a"}, {"a.b.c", "x.b.c", ""}, {"a.b.c", "a.b", "a.b"},
	} {
		if impl.CommonPackage(c.a, c.b) != c.want || impl.CommonPackage(c.b, c.a) != c.want {
			t.Errorf("CommonPackage(%q, %q) = %q", c.a, c.b, impl.CommonPackage(c.a, c.b))
		}
	}
	for _, text := range append(longTexts(), noNames...) {
		for _, name := range []string{"a", "a.b.c", text} {
			if impl.CommonPackage(text, name) != "" || impl.CommonPackage(name, text) != "" {
				t.Errorf("CommonPackage of %.20q and %.20q", text, name)
			}
		}
	}
}

// TestNameResultsAreFresh checks that results are not shared, and arguments not changed.
func TestNameResultsAreFresh(t *testing.T) {
	for _, list := range []func(string) []string{impl.PartsOf, impl.NamesAbove} {
		first, want := list("a.b.c"), list("a.b.c")
		for i := range first {
			first[i] = "changed"
		}
		if second := list("a.b.c"); !slices.Equal(second, want) {
			t.Errorf("a result is shared: %q", second)
		}
	}
	row := []string{"a", "b", "c", "kept"}
	if s := impl.JoinParts(row[:2]); s != "a.b" || !slices.Equal(row, []string{"a", "b", "c", "kept"}) {
		t.Errorf("JoinParts has %q and leaves %q", s, row)
	}
}

func TestNameLimits(t *testing.T) {
	if impl.MaxPart != 3 || impl.MaxParts != 3 {
		t.Error("the limits of names are others")
	}
	if !impl.ValidName("aaa.bbb.ccc") || impl.ValidName("aaaa.bbb.cc") || impl.ValidName("a.a.a.a") || impl.ValidPart("aaaa") {
		t.Error("the limits of names do not hold")
	}
}

package impl

import "strings"

// MaxPart is the largest number of letters of a part.
const MaxPart = 3

// MaxParts is the largest number of parts of a name.
const MaxParts = 3

// dot is between two parts of a name.
const dot = "."

// longestName is the number of bytes of the longest names: full parts, with dots between them.
const longestName = MaxParts*MaxPart + MaxParts - 1

// ValidPart reports whether a text is a part of a name.
func ValidPart(s string) bool {
	if s == "" || len(s) > MaxPart {
		return false
	}
	for _, letter := range s {
		if letter < 'a' || letter > 'z' {
			return false
		}
	}
	return true
}

// ValidName reports whether a text is a name of a module.
func ValidName(s string) bool {
	return len(PartsOf(s)) > 0
}

// validPackage reports whether a text is a package: a name, or "" for what is above all names.
func validPackage(p string) bool {
	return p == "" || ValidName(p)
}

// validParts reports whether texts are the parts of a name.
func validParts(parts []string) bool {
	if len(parts) < 1 || len(parts) > MaxParts {
		return false
	}
	for _, part := range parts {
		if !ValidPart(part) {
			return false
		}
	}
	return true
}

// PartsOf returns the parts of a name.
func PartsOf(s string) []string {
	// A text of any length must cost no more than a name does, so it is not split if it is too long for one.
	if len(s) > longestName {
		return nil
	}
	parts := splitAtDots(s)
	if !validParts(parts) {
		return nil
	}
	return parts
}

// splitAtDots returns what is between the dots of a text, which may be "".
func splitAtDots(s string) []string {
	var pieces []string
	start := 0
	for i, letter := range s {
		if letter == '.' {
			pieces = append(pieces, s[start:i])
			start = i + 1
		}
	}
	return append(pieces, s[start:])
}

// JoinParts returns the name with some parts.
func JoinParts(parts []string) string {
	// The parts are looked at one by one, as a text such as "a.b" would look right once it is joined.
	if !validParts(parts) {
		return ""
	}
	return joinWithDots(parts...)
}

// joinWithDots returns the pieces that are not "", with a dot between two of them.
func joinWithDots(pieces ...string) string {
	text := ""
	for _, piece := range pieces {
		if text != "" && piece != "" {
			text += dot
		}
		text += piece
	}
	return text
}

// ParentOf returns a name without its last part.
func ParentOf(s string) string {
	parts := PartsOf(s)
	if len(parts) == 0 {
		return ""
	}
	return joinWithDots(parts[:len(parts)-1]...)
}

// LastOf returns the last part of a name.
func LastOf(s string) string {
	parts := PartsOf(s)
	if len(parts) == 0 {
		return ""
	}
	return parts[len(parts)-1]
}

// ChildOf returns the name of a part in a package.
func ChildOf(p string, s string) string {
	if !validPackage(p) || !ValidPart(s) {
		return ""
	}
	return nameOrNothing(joinWithDots(p, s))
}

// nameOrNothing returns a text if it is a name, and "" otherwise.
func nameOrNothing(s string) string {
	if !ValidName(s) {
		return ""
	}
	return s
}

// NamesAbove returns a name and all names above it.
func NamesAbove(s string) []string {
	var names []string
	parts := PartsOf(s)
	for i := range parts {
		names = append(names, joinWithDots(parts[:i+1]...))
	}
	return names
}

// IsUnder reports whether a name is a package, or under it.
func IsUnder(s string, p string) bool {
	if !ValidName(s) || !validPackage(p) {
		return false
	}
	// The dot belongs to what is compared: the name "ab" begins with "a", and is not under it.
	return p == "" || s == p || strings.HasPrefix(s, p+dot)
}

// ResolveName returns the name that a relative one means in a package.
func ResolveName(p string, level int, s string) string {
	if !validPackage(p) || level < 0 || level > MaxParts+1 || s != "" && !ValidName(s) {
		return ""
	}
	if level == 0 {
		return s
	}
	for range level - 1 {
		p = ParentOf(p)
	}
	if p == "" {
		return ""
	}
	return nameOrNothing(joinWithDots(p, s))
}

// RelativeName returns how a name is told in a package.
func RelativeName(p string, s string) (int, string) {
	if !validPackage(p) || !ValidName(s) {
		return 0, ""
	}
	// The package "" is not looked at: every name is under it, but no relative one leads there.
	for level := 1; p != ""; level++ {
		if IsUnder(s, p) {
			return level, strings.TrimPrefix(s[len(p):], dot)
		}
		p = ParentOf(p)
	}
	return 0, ""
}

// CommonPackage returns the longest name that two names are under.
func CommonPackage(a string, b string) string {
	common := ""
	for _, name := range NamesAbove(a) {
		if IsUnder(b, name) {
			common = name
		}
	}
	return common
}

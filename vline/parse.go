package vline

import (
	"strings"
	"unicode/utf8"
)

func isLower(c byte) bool { return c >= 'a' && c <= 'z' || c >= '0' && c <= '9' || c == '-' }

func isUpper(c byte) bool { return c >= 'A' && c <= 'Z' }

// isText asks whether a byte may stand in a value.
func isText(c byte) bool { return c >= 32 && c != 127 || c == '\t' }

func isQuotedText(c byte) bool { return isText(c) && c != '"' }

func all(s string, is func(byte) bool) bool {
	for i := range len(s) {
		if !is(s[i]) {
			return false
		}
	}
	return true
}

func goodName(s string) bool { return len(s) >= 1 && len(s) <= mostName && all(s, isLower) }

// lowered has the letters A to Z, and no others, as a to z.
func lowered(s string) string {
	b := []byte(s)
	for i, c := range b {
		if isUpper(c) {
			b[i] = c + 'a' - 'A'
		}
	}
	return string(b)
}

func raised(s string) string {
	b := []byte(s)
	for i, c := range b {
		if c >= 'a' && c <= 'z' {
			b[i] = c - 'a' + 'A'
		}
	}
	return string(b)
}

// good asks whether Read could tell a line, however long it is.
func good(l Line) bool {
	if l.Group != "" && !goodName(l.Group) || !goodName(l.Name) || !all(l.Value, isText) || !utf8.ValidString(l.Value) {
		return false
	}
	for _, p := range l.Params {
		if !goodName(p.Name) || len(p.Values) == 0 {
			return false
		}
		for _, v := range p.Values {
			if !all(v, isQuotedText) || !utf8.ValidString(v) {
				return false
			}
		}
	}
	return true
}

// parse reads an unfolded line.
func parse(s string) (Line, bool) {
	var l Line
	if !utf8.ValidString(s) {
		return l, false
	}
	end := strings.IndexAny(s, ";:")
	if end < 0 {
		return l, false
	}
	group, name, hasGroup := strings.Cut(lowered(s[:end]), ".")
	if hasGroup {
		l.Group, l.Name = group, name
	} else {
		l.Name = group
	}
	if hasGroup && l.Group == "" {
		return l, false
	}
	s = s[end:]
	for s[0] == ';' {
		p, rest, ok := parseParam(s[1:])
		if !ok {
			return l, false
		}
		l.Params = append(l.Params, p)
		s = rest
	}
	l.Value = s[1:]
	return l, good(l)
}

// parseParam reads a parameter; what stands behind it begins with a ';' or ':'.
func parseParam(s string) (Param, string, bool) {
	name, s, ok := strings.Cut(s, "=")
	p := Param{Name: lowered(name)}
	for ok {
		var v string
		v, s, ok = parseValue(s)
		p.Values = append(p.Values, v)
		if !ok || s[0] != ',' {
			break
		}
		s = s[1:]
	}
	return p, s, ok
}

// parseValue reads a parameter's value; what stands behind it begins with a ',', ';' or ':'.
func parseValue(s string) (string, string, bool) {
	if !strings.HasPrefix(s, `"`) {
		end := strings.IndexAny(s, needQuote)
		if end < 0 {
			return "", "", false
		}
		return s[:end], s[end:], true
	}
	v, rest, ok := strings.Cut(s[1:], `"`)
	if !ok || rest == "" || !strings.Contains(needQuote, rest[:1]) {
		return "", "", false
	}
	return v, rest, true
}

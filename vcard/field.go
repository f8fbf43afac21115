package vcard

import (
	"strconv"
	"strings"

	"rolodex/api"
	"rolodex/vline"
)

const (
	rawGroup  = "raw"
	rawStart  = rawGroup + "."
	needQuote = ",;:#"
)

func mayBeField(l vline.Line) bool {
	return l.Group != rawGroup && l.Name != begin && l.Name != version && l.Name != end
}

// isEscaped asks whether the values of lines of a name are texts that are escaped.
func isEscaped(name string) bool {
	switch name {
	case "fn", "nickname", "tel", "email", "note", "org", "title", "role", "categories":
		return true
	}
	return false
}

// field is the field of a line, as if none of the same name were ahead of it. A text that Escape would not lay just so is kept as it stands, so that it can be told again.
func field(l vline.Line) Pair {
	p := Pair{Field: fieldName(l), Value: l.Value}
	if !isEscaped(l.Name) {
		return p
	}
	text, e := vline.Unescape(l.Value)
	if e != api.OK || vline.Escape(text) != l.Value {
		p.Field = rawStart + p.Field
		return p
	}
	p.Value = text
	return p
}

func fieldName(l vline.Line) string {
	var b strings.Builder
	if l.Group != "" {
		b.WriteString(l.Group + ".")
	}
	b.WriteString(l.Name)
	for _, p := range l.Params {
		b.WriteString(";" + p.Name + "=")
		for i, v := range p.Values {
			if i > 0 {
				b.WriteString(",")
			}
			if strings.ContainsAny(v, needQuote) {
				v = `"` + v + `"`
			}
			b.WriteString(v)
		}
	}
	return b.String()
}

// numbered is a name behind ahead others of it.
func numbered(name string, ahead int) string {
	if ahead == 0 {
		return name
	}
	return name + "#" + strconv.FormatUint(uint64(ahead)+1, 10)
}

// cutNumber cuts a field's name from its number (1, if it has none).
func cutNumber(name string) (string, int, bool) {
	isQuoted := false
	for i := range len(name) {
		switch {
		case name[i] == '"':
			isQuoted = !isQuoted
		case name[i] == '#' && !isQuoted:
			n, err := strconv.Atoi(name[i+1:])
			return name[:i], n, err == nil && n >= 2 && strconv.Itoa(n) == name[i+1:]
		}
	}
	return name, 1, true
}

// Field tells a line's field.
func Field(l vline.Line, ahead int) (Pair, bool) {
	if _, e := vline.Print(l); e != api.OK || !mayBeField(l) || ahead < 0 {
		return Pair{}, false
	}
	p := field(l)
	p.Field = numbered(p.Field, ahead)
	return p, true
}

// Line tells a field's line. The name is read as loosely as can be: the line is the right one, if its field is p.
func Line(p Pair) (vline.Line, api.Errno) {
	name, n, ok := cutNumber(p.Field)
	if !ok {
		return vline.Line{}, api.EARG
	}
	name, isRaw := strings.CutPrefix(name, rawStart)
	l := readName(name)
	l.Value = p.Value
	if isEscaped(l.Name) && !isRaw {
		l.Value = vline.Escape(p.Value)
	}
	if again, ok := Field(l, n-1); !ok || again != p {
		return vline.Line{}, api.EARG
	}
	return l, api.OK
}

func readName(name string) vline.Line {
	var l vline.Line
	head, rest, more := strings.Cut(name, ";")
	l.Name = head
	if group, after, ok := strings.Cut(head, "."); ok {
		l.Group, l.Name = group, after
	}
	for more {
		var p vline.Param
		p.Name, rest, more = strings.Cut(rest, "=")
		hasValue := more
		for hasValue {
			var v string
			v, rest = readValue(rest)
			p.Values = append(p.Values, v)
			rest, hasValue = strings.CutPrefix(rest, ",")
		}
		l.Params = append(l.Params, p)
		rest, more = strings.CutPrefix(rest, ";")
	}
	return l
}

// readValue reads a parameter's value, and tells what stands behind it.
func readValue(s string) (string, string) {
	if quoted, ok := strings.CutPrefix(s, `"`); ok {
		v, rest, _ := strings.Cut(quoted, `"`)
		return v, rest
	}
	if i := strings.IndexAny(s, ",;"); i >= 0 {
		return s[:i], s[i:]
	}
	return s, ""
}

// Good tells whether a field can be written.
func Good(p Pair) bool {
	if len(p.Field) > api.MaxField || len(p.Value) > api.MaxText {
		return false
	}
	_, e := Line(p)
	return e == api.OK
}

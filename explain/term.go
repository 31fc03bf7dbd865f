package explain

import (
	"strings"

	"tabellion/api"
	"tabellion/num"
	"tabellion/value"
)

// Term returns a term as a text; cols are the columns of depth 0.
func Term(t api.Term, cols []api.Col) string {
	var b strings.Builder
	write(&b, t, cols)
	return b.String()
}

// sign returns the sign or the word of an operator between two operands; it is empty for any other one.
func sign(op int) string {
	signs := [...]string{
		api.EAdd: "+", api.ESub: "-", api.EMul: "*", api.EDiv: "/", api.EMod: "%", api.ECat: "||", api.EEq: "=", api.ENe: "<>",
		api.ELt: "<", api.ELe: "<=", api.EGt: ">", api.EGe: ">=", api.EAnd: "and", api.EOr: "or", api.ELike: "like",
	}
	if op < 0 || op >= len(signs) {
		return ""
	}
	return signs[op]
}

func write(b *strings.Builder, t api.Term, cols []api.Col) {
	n := len(t.Kids)
	switch {
	case t.Op == api.EConst:
		b.WriteString(value.Text(t.V))
	case t.Op == api.ECol:
		b.WriteString(column(t, cols))
	case t.Op == api.ENeg && n == 1:
		writeParts(b, cols, "(- ", t.Kids[0], ")")
	case t.Op == api.ENot && n == 1:
		writeParts(b, cols, "(not ", t.Kids[0], ")")
	case t.Op == api.EIsNull && n == 1:
		writeParts(b, cols, "(", t.Kids[0], " is null)")
	case sign(t.Op) != "" && n == 2:
		writeParts(b, cols, "(", t.Kids[0], " "+sign(t.Op)+" ", t.Kids[1], ")")
	case t.Op == api.EBetween && n == 3:
		writeParts(b, cols, "(", t.Kids[0], " between ", t.Kids[1], " and ", t.Kids[2], ")")
	case t.Op == api.EIn && n >= 2:
		writeParts(b, cols, "(", t.Kids[0], " in (")
		writeList(b, t.Kids[1:], cols)
		b.WriteString("))")
	case t.Op == api.ECase && n >= 2:
		writeCase(b, t.Kids, cols)
	case t.Op == api.EFunc:
		b.WriteString(t.Name + "(")
		writeList(b, t.Kids, cols)
		b.WriteString(")")
	case t.Op == api.EScalar:
		b.WriteString("(query)")
	case t.Op == api.EExists:
		b.WriteString("(exists query)")
	case t.Op == api.EInSub && n == 1:
		writeParts(b, cols, "(", t.Kids[0], " in query)")
	default:
		b.WriteString("?")
	}
}

// writeParts writes strings and terms.
func writeParts(b *strings.Builder, cols []api.Col, parts ...any) {
	for _, p := range parts {
		switch p := p.(type) {
		case string:
			b.WriteString(p)
		case api.Term:
			write(b, p, cols)
		}
	}
}

func writeList(b *strings.Builder, l []api.Term, cols []api.Col) {
	for i, t := range l {
		b.WriteString(between(i, "", ", "))
		write(b, t, cols)
	}
}

func writeCase(b *strings.Builder, l []api.Term, cols []api.Col) {
	b.WriteString("(case")
	for ; len(l) >= 2; l = l[2:] {
		writeParts(b, cols, " when ", l[0], " then ", l[1])
	}
	if len(l) == 1 {
		writeParts(b, cols, " else ", l[0])
	}
	b.WriteString(" end)")
}

// column returns the name of a column, or where it stands if it has none.
func column(t api.Term, cols []api.Col) string {
	if t.Depth != 0 || t.At < 0 || t.At >= len(cols) {
		return "$" + num.Text(t.Depth) + "." + num.Text(t.At)
	}
	c := cols[t.At]
	if c.Table == "" {
		return c.Name
	}
	return c.Table + "." + c.Name
}

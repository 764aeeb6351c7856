package alias

// The kinds of statements.
const (
	newKind   = 0
	copyKind  = 1
	loadKind  = 2
	storeKind = 3
	kinds     = 4
)

// The letters of variables and of sites.
const (
	firstVariable = 'a'
	lastVariable  = 'l'
	firstSite     = 'A'
	lastSite      = 'L'
)

// A statement holds the letters and the digit of its text by the marks of its
// kind's shape. What the shape lacks is 0, so that == tells equal statements.
type statement struct {
	kind int
	x    byte
	y    byte
	o    byte
	f    byte
}

// shapeOf tells how a kind is written: x and y stand for variables, o for a
// site, f for a field, and every other byte for itself.
func shapeOf(kind int) string {
	switch kind {
	case newKind:
		return "x=@o;"
	case copyKind:
		return "x=y;"
	case loadKind:
		return "x=y.f;"
	}
	return "x.f=y;"
}

// fits tells whether a byte of a text may stand where a shape has this mark.
func fits(mark byte, b byte) bool {
	switch mark {
	case 'x', 'y':
		return firstVariable <= b && b <= lastVariable
	case 'o':
		return firstSite <= b && b <= lastSite
	case 'f':
		return '0' <= b && b <= '5'
	}
	return b == mark
}

// fitting counts the bytes of the text from a place on that fit the shape.
func fitting(shape string, text string, at int) int {
	n := 0
	for n < len(shape) && at+n < len(text) && fits(shape[n], text[at+n]) {
		n++
	}
	return n
}

// readStatement reads the statement that begins at a place, and answers the
// place behind it. Where there is none, the place is that of the first byte
// that cannot stand there. No statement is the beginning of another one, so
// the shape that goes furthest decides.
func readStatement(text string, at int) (statement, int, bool) {
	furthest := 0
	for kind := 0; kind < kinds; kind++ {
		shape := shapeOf(kind)
		n := fitting(shape, text, at)
		if n == len(shape) {
			return fill(kind, text, at), at + n, true
		}
		if n > furthest {
			furthest = n
		}
	}
	return statement{}, at + furthest, false
}

// fill makes the statement of a kind whose shape the text at a place fits.
func fill(kind int, text string, at int) statement {
	stmt := statement{kind: kind}
	shape := shapeOf(kind)
	for i := 0; i < len(shape) && at+i < len(text); i++ {
		switch shape[i] {
		case 'x':
			stmt.x = text[at+i]
		case 'y':
			stmt.y = text[at+i]
		case 'o':
			stmt.o = text[at+i]
		case 'f':
			stmt.f = text[at+i]
		}
	}
	return stmt
}

// text writes the statement, with its semicolon.
func (stmt statement) text() string {
	shape := shapeOf(stmt.kind)
	var out []byte
	for i := 0; i < len(shape); i++ {
		b := stmt.byteAt(shape[i])
		out = append(out, b)
	}
	return string(out)
}

// byteAt answers what the statement has where its shape has this mark.
func (stmt statement) byteAt(mark byte) byte {
	switch mark {
	case 'x':
		return stmt.x
	case 'y':
		return stmt.y
	case 'o':
		return stmt.o
	case 'f':
		return stmt.f
	}
	return mark
}

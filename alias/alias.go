// Package alias: what pointers may point to: see DOC.md.
package alias

// Errno is what a call answers: OK or the reason for a refusal.
type Errno int

const (
	OK       Errno = 0
	ErrLong  Errno = 1 // a text above its bound
	ErrForm  Errno = 2 // no program, or no statement
	ErrFull  Errno = 3 // too many statements
	ErrNone  Errno = 4 // there is no such statement, or no such reason
	ErrName  Errno = 5 // a variable that no statement names
	ErrField Errno = 6 // no text of fields
)

const (
	maxText  = 200
	maxStmts = 24
)

// Session is a program, as a set of statements. Make it by New.
type Session struct {
	stmts []statement // a list as with makes it, so that equal programs are equal lists
}

// New makes a session without a statement.
func New() *Session { return &Session{} }

// Load lays a program in the place of the one that is there (P3).
func (s *Session) Load(text string) (Errno, int) {
	if len(text) > maxText {
		return ErrLong, 0
	}
	stmts, end, ok := readProgram(text)
	if !ok {
		return ErrForm, end
	}
	if len(stmts) > maxStmts {
		return ErrFull, 0
	}
	s.stmts = stmts
	return OK, 0
}

// Add adds a statement (P4).
func (s *Session) Add(stmt string) (Errno, int) {
	added, refusal, at := readSingle(stmt)
	if refusal != OK {
		return refusal, at
	}
	stmts := with(s.stmts, added)
	if len(stmts) > maxStmts {
		return ErrFull, 0
	}
	s.stmts = stmts
	return OK, 0
}

// Drop takes a statement away (P5).
func (s *Session) Drop(stmt string) (Errno, int) {
	dropped, refusal, at := readSingle(stmt)
	if refusal != OK {
		return refusal, at
	}
	stmts := without(s.stmts, dropped)
	if len(stmts) == len(s.stmts) {
		return ErrNone, 0
	}
	s.stmts = stmts
	return OK, 0
}

// Print writes the program (P6).
func (s *Session) Print() string {
	var out []byte
	for _, stmt := range s.stmts {
		text := stmt.text()
		out = append(out, text...)
	}
	return string(out)
}

// Points tells what a variable may point to (P8, P9).
func (s *Session) Points(v string, fields string) (string, bool, Errno) {
	name, ok := readName(s.stmts, v)
	if !ok {
		return "", false, ErrName
	}
	if !isFields(fields) {
		return "", false, ErrField
	}
	told := leastTable(s.stmts, fields)
	exact := leastTable(s.stmts, allFields)
	found := told.of(name)
	return found.text(), found == exact.of(name), OK
}

// Alias tells whether two variables may point to the same (P10).
func (s *Session) Alias(v string, w string, fields string) (bool, bool, Errno) {
	one, oneOK := readName(s.stmts, v)
	other, otherOK := readName(s.stmts, w)
	if !oneOK || !otherOK {
		return false, false, ErrName
	}
	if !isFields(fields) {
		return false, false, ErrField
	}
	told := leastTable(s.stmts, fields)
	exact := leastTable(s.stmts, allFields)
	both := told.meet(one, other)
	return both, both == exact.meet(one, other), OK
}

// Batch writes what every variable may point to (P11).
func (s *Session) Batch() string {
	exact := leastTable(s.stmts, allFields)
	var out []byte
	for v := byte(firstVariable); v <= lastVariable; v++ {
		if names(s.stmts, v) {
			found := exact.of(v)
			text := found.text()
			out = append(out, v, ':')
			out = append(out, text...)
			out = append(out, ';')
		}
	}
	return string(out)
}

// Refine answers the fewest fields that need be told apart (P12).
func (s *Session) Refine(v string) (string, Errno) {
	name, ok := readName(s.stmts, v)
	if !ok {
		return "", ErrName
	}
	return fewestFields(s.stmts, name), OK
}

// Why answers a reason why a variable may point to an object (P13, P14).
func (s *Session) Why(v string, o string) (string, Errno) {
	name, ok := readName(s.stmts, v)
	if !ok {
		return "", ErrName
	}
	if len(o) != 1 {
		return "", ErrNone
	}
	site := o[0]
	exact := leastTable(s.stmts, allFields)
	if !exact.has(name, site) {
		return "", ErrNone
	}
	return reasonFor(s.stmts, name, site), OK
}

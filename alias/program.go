package alias

// with answers a new list of the same statements and this one, each once, by
// the rising order of their texts, if the list that is handed in is such a one.
func with(stmts []statement, added statement) []statement {
	var out []statement
	middle := added.text()
	for _, stmt := range stmts {
		text := stmt.text()
		if text < middle {
			out = append(out, stmt)
		}
	}
	out = append(out, added)
	for _, stmt := range stmts {
		text := stmt.text()
		if text > middle {
			out = append(out, stmt)
		}
	}
	return out
}

// without answers a new list of the same statements but for this one.
func without(stmts []statement, dropped statement) []statement {
	var out []statement
	for _, stmt := range stmts {
		if stmt != dropped {
			out = append(out, stmt)
		}
	}
	return out
}

// readProgram reads statements, one behind the other, or answers false and the
// place of the first byte that cannot stand there. A text that ends too early
// fails at its length, so the place alone does not tell whether it was read.
func readProgram(text string) ([]statement, int, bool) {
	var stmts []statement
	at := 0
	for at < len(text) {
		stmt, next, ok := readStatement(text, at)
		if !ok {
			return nil, next, false
		}
		stmts = with(stmts, stmt)
		at = next
	}
	return stmts, at, true
}

// readSingle reads a text of just one statement.
func readSingle(text string) (statement, Errno, int) {
	if len(text) > maxText {
		return statement{}, ErrLong, 0
	}
	stmt, end, ok := readStatement(text, 0)
	if !ok || end < len(text) {
		return statement{}, ErrForm, end
	}
	return stmt, OK, 0
}

// names tells whether a statement names this variable. What a statement lacks
// is 0, so a byte that is no variable must not be held against it.
func names(stmts []statement, v byte) bool {
	if !fits('x', v) {
		return false
	}
	for _, stmt := range stmts {
		if stmt.x == v || stmt.y == v {
			return true
		}
	}
	return false
}

// readName reads a text that is just one variable, which a statement names.
func readName(stmts []statement, text string) (byte, bool) {
	if len(text) != 1 {
		return 0, false
	}
	v := text[0]
	return v, names(stmts, v)
}

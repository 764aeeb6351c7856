package alias

// A set of sites has a bit for each, so that sets are joined and compared as
// numbers.
type sites int

// only answers the set of one site, and the empty set for any other byte.
func only(o byte) sites {
	if o < firstSite || o > lastSite {
		return 0
	}
	return 1 << (o - firstSite)
}

// text writes the sites by rising order.
func (set sites) text() string {
	var out []byte
	for o := byte(firstSite); o <= lastSite; o++ {
		if set&only(o) != 0 {
			out = append(out, o)
		}
	}
	return string(out)
}

// A table says of each variable to which sites it may point.
type table struct {
	rows [lastVariable - firstVariable + 1]sites
}

// of answers the sites to which a variable may point.
func (t table) of(v byte) sites {
	i := int(v) - firstVariable
	if i < 0 || i >= len(t.rows) {
		return 0
	}
	return t.rows[i]
}

// has tells whether a variable may point to a site.
func (t table) has(v byte, o byte) bool {
	return t.of(v)&only(o) != 0
}

// plus answers the table that says these sites of the variable, too.
func (t table) plus(v byte, more sites) table {
	i := int(v) - firstVariable
	if i >= 0 && i < len(t.rows) {
		t.rows[i] |= more
	}
	return t
}

// meet tells whether there is a site to which both variables may point.
func (t table) meet(v byte, w byte) bool {
	return t.of(v)&t.of(w) != 0
}

// found answers what a load may bring by this table from the program's stores.
func (t table) found(load statement, stmts []statement, fields string) sites {
	apart := toldApart(fields, load.f)
	var out sites
	for _, store := range stmts {
		if store.kind != storeKind || store.f != load.f {
			continue
		}
		if !apart || t.meet(load.y, store.x) {
			out |= t.of(store.y)
		}
	}
	return out
}

// asked answers the sites to which a statement's x must point, if the others
// point as this table says. A store asks for nothing by itself: what it lays
// down is asked for by the loads of its field.
func (t table) asked(stmt statement, stmts []statement, fields string) sites {
	switch stmt.kind {
	case newKind:
		return only(stmt.o)
	case copyKind:
		return t.of(stmt.y)
	case loadKind:
		return t.found(stmt, stmts, fields)
	}
	return 0
}

// leastTable answers the least table that obeys the program, these fields being
// told apart. It begins with nothing and adds only what every table that obeys
// must say, until a round adds no more. As a round that is not the last adds a
// site to a row, the rounds end.
func leastTable(stmts []statement, fields string) table {
	var t table
	for {
		before := t
		for _, stmt := range stmts {
			more := t.asked(stmt, stmts, fields)
			t = t.plus(stmt.x, more)
		}
		if t == before {
			return t
		}
	}
}

// fewestFields answers the shortest text of fields by which the least table
// says of a variable what is exact, and of those as short the lowest one. The
// text of all fields is one that does.
func fewestFields(stmts []statement, v byte) string {
	best := allFields
	exact := leastTable(stmts, allFields)
	for number := 0; number < fieldTexts; number++ {
		fields := fieldText(number)
		if !isAhead(fields, best) {
			continue
		}
		told := leastTable(stmts, fields)
		if told.of(v) == exact.of(v) {
			best = fields
		}
	}
	return best
}

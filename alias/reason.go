package alias

// A step says why the variable x of a statement may point to a site. A load
// does not do it alone: it needs the store that laid the site down, and a site
// p to which the bases of both may point.
type step struct {
	by    statement
	o     byte
	store statement
	p     byte
}

// text writes the step: its fact and what it goes by.
func (one step) text() string {
	by := one.by.text()
	out := []byte{one.by.x, one.o, '<'}
	out = append(out, by...)
	if one.by.kind == loadKind {
		store := one.store.text()
		out = append(out, store...)
		out = append(out, one.p)
	}
	return string(out)
}

// plusNeeds answers the table that says, too, what must be known ahead of a step.
func (t table) plusNeeds(one step) table {
	switch one.by.kind {
	case copyKind:
		return t.plus(one.by.y, only(one.o))
	case loadKind:
		t = t.plus(one.store.x, only(one.p))
		t = t.plus(one.by.y, only(one.p))
		return t.plus(one.store.y, only(one.o))
	}
	return t
}

// stepBy answers the step by which a statement shows that its x may point to a
// site, if this table is all that is known.
func (t table) stepBy(stmt statement, o byte, stmts []statement) (step, bool) {
	switch stmt.kind {
	case newKind:
		return step{by: stmt, o: o}, stmt.o == o
	case copyKind:
		return step{by: stmt, o: o}, t.has(stmt.y, o)
	case loadKind:
		return t.stepByLoad(stmt, o, stmts)
	}
	return step{}, false
}

// stepByLoad is stepBy of a load: it looks for the store and for p.
func (t table) stepByLoad(load statement, o byte, stmts []statement) (step, bool) {
	for _, store := range stmts {
		if store.kind != storeKind || store.f != load.f || !t.has(store.y, o) {
			continue
		}
		for p := byte(firstSite); p <= lastSite; p++ {
			if t.has(store.x, p) && t.has(load.y, p) {
				return step{by: load, o: o, store: store, p: p}, true
			}
		}
	}
	return step{}, false
}

// nextStep answers a step whose fact this table does not say yet.
func (t table) nextStep(stmts []statement) (step, bool) {
	for _, stmt := range stmts {
		for o := byte(firstSite); o <= lastSite; o++ {
			if t.has(stmt.x, o) {
				continue
			}
			next, ok := t.stepBy(stmt, o, stmts)
			if ok {
				return next, true
			}
		}
	}
	return step{}, false
}

// allSteps answers a step for each fact that is exact, each behind those that it
// needs. As each step's fact is new, there are no more than a table has facts.
func allSteps(stmts []statement) []step {
	var steps []step
	var known table
	for {
		next, ok := known.nextStep(stmts)
		if !ok {
			return steps
		}
		steps = append(steps, next)
		known = known.plus(next.by.x, only(next.o))
	}
}

// reasonFor writes a reason why v may point to o. It goes backwards from there
// and leaves out each step that is not needed, for it would only hide the reason.
func reasonFor(stmts []statement, v byte, o byte) string {
	steps := allSteps(stmts)
	var needed table
	needed = needed.plus(v, only(o))
	reason := ""
	for i := len(steps) - 1; i >= 0; i-- {
		if needed.has(steps[i].by.x, steps[i].o) {
			text := steps[i].text()
			reason = text + reason
			needed = needed.plusNeeds(steps[i])
		}
	}
	return reason
}

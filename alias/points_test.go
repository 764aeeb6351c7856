package alias_test

import (
	"strings"
	"testing"

	"alias/alias"
)

const allFields = "012345"

// facts is a table written as pairs of a variable and a site.
type facts map[[2]byte]bool

// of answers the sites of a variable, by rising order.
func (f facts) of(v byte) string {
	out := ""
	for o := byte('A'); o <= 'L'; o++ {
		if f[[2]byte{v, o}] {
			out += string(rune(o))
		}
	}
	return out
}

// obeys tells by the document's own words whether a table obeys a program, the
// fields being told apart. Where it does not, it answers a fact that is missing.
func (f facts) obeys(stmts []string, fields string) ([2]byte, bool) {
	for _, stmt := range stmts {
		wanted := ""
		switch {
		case stmt[2] == '@':
			wanted = stmt[3:4]
		case len(stmt) == 4:
			wanted = f.of(stmt[2])
		case stmt[1] == '=':
			for _, store := range stmts {
				if store[1] != '.' || store[2] != stmt[4] {
					continue
				}
				if !strings.Contains(fields, stmt[4:5]) || strings.ContainsAny(f.of(stmt[2]), f.of(store[0])) {
					wanted += f.of(store[4])
				}
			}
		}
		for i := range wanted {
			if fact := [2]byte{stmt[0], wanted[i]}; !f[fact] {
				return fact, false
			}
		}
	}
	return [2]byte{}, true
}

// leastFacts adds one missing fact at a time.
func leastFacts(stmts []string, fields string) facts {
	f := facts{}
	for {
		missing, ok := f.obeys(stmts, fields)
		if ok {
			return f
		}
		f[missing] = true
	}
}

// leastOfAll goes through all tables of the variables a to c and the sites A
// and B, and answers what all that obey have in common.
func leastOfAll(stmts []string, fields string) facts {
	var common facts
	for n := 0; n < 64; n++ {
		f := facts{}
		for i := 0; i < 6; i++ {
			if n>>i&1 == 1 {
				f[[2]byte{"abc"[i/2], "AB"[i%2]}] = true
			}
		}
		if _, ok := f.obeys(stmts, fields); !ok {
			continue
		}
		if common == nil {
			common = f
		}
		for fact := range common {
			if !f[fact] {
				delete(common, fact)
			}
		}
	}
	return common
}

// namedIn lists the variables that stand in the statements, by rising order.
func namedIn(stmts []string) string {
	out, all := "", strings.Join(stmts, "")
	for v := 'a'; v <= 'l'; v++ {
		if strings.ContainsRune(all, v) {
			out += string(v)
		}
	}
	return out
}

// fieldTexts lists the 64 texts of fields.
func fieldTexts() []string {
	texts := []string{""}
	for _, f := range allFields {
		for _, text := range texts {
			texts = append(texts, text+string(f))
		}
	}
	return texts
}

// checkAnswers asks a session all of P8 to P11 for one text of fields, and holds
// the answers against two tables. It counts those that are not exact.
func checkAnswers(t *testing.T, s *alias.Session, stmts []string, fields string, told facts, exact facts) int {
	t.Helper()
	vague, batch := 0, ""
	named := namedIn(stmts)
	for i := range named {
		v := named[i : i+1]
		want, whole := told.of(v[0]), exact.of(v[0])
		if p, x, e := s.Points(v, fields); p != want || x != (want == whole) || e != alias.OK {
			t.Fatalf("P7 to P9: %q: Points(%q, %q) = %q, %v, %d, want %q, %v", stmts, v, fields, p, x, e, want, want == whole)
		}
		if want != whole {
			vague++
		}
		batch += v + ":" + whole + ";"
		for j := range named {
			w := named[j : j+1]
			both := strings.ContainsAny(want, told.of(w[0]))
			same := both == strings.ContainsAny(whole, exact.of(w[0]))
			if p, x, e := s.Alias(v, w, fields); p != both || x != same || e != alias.OK {
				t.Fatalf("P7, P10: %q: Alias(%q, %q, %q) = %v, %v, %d, want %v, %v", stmts, v, w, fields, p, x, e, both, same)
			}
		}
	}
	if b := s.Batch(); b != batch {
		t.Fatalf("P7, P11: %q: Batch() = %q, want %q", stmts, b, batch)
	}
	return vague
}

// The document's own examples of P8 to P11.
func TestExamplesOfPointing(t *testing.T) {
	s := loaded(t, "a=@A;b=@B;c=@C;d=@D;a.0=c;b.0=d;e=a.0;f=b.0;")
	checkPoints(t, s, "e", "0", "C", true, alias.OK)
	checkPoints(t, s, "e", "", "CD", false, alias.OK)
	checkPoints(t, s, "a", "", "A", true, alias.OK)
	checkPoints(t, s, "g", "0", "", false, alias.ErrName)
	checkAlias(t, s, "e", "f", "0", false, true, alias.OK)
	checkAlias(t, s, "e", "f", "", true, false, alias.OK)
	if b := s.Batch(); b != "a:A;b:B;c:C;d:D;e:C;f:D;" {
		t.Errorf("P11: Batch() = %q", b)
	}
	s.Add("b=a;")
	checkPoints(t, s, "f", "0", "CD", true, alias.OK)
	s.Drop("b=a;")
	checkPoints(t, s, "f", "0", "D", true, alias.OK)
}

func checkPoints(t *testing.T, s *alias.Session, v string, fields string, sites string, exact bool, want alias.Errno) {
	t.Helper()
	if p, x, e := s.Points(v, fields); p != sites || x != exact || e != want {
		t.Errorf("P8, P9: %q: Points(%.20q, %.20q) = %q, %v, %d, want %q, %v, %d", s.Print(), v, fields, p, x, e, sites, exact, want)
	}
}

func checkAlias(t *testing.T, s *alias.Session, v string, w string, fields string, both bool, exact bool, want alias.Errno) {
	t.Helper()
	if p, x, e := s.Alias(v, w, fields); p != both || x != exact || e != want {
		t.Errorf("P10: %q: Alias(%.20q, %.20q, %.20q) = %v, %v, %d, want %v, %v, %d", s.Print(), v, w, fields, p, x, e, both, exact, want)
	}
}

// Small programs, for which all tables can be gone through: the least one is
// found by its definition.
func TestLeastOfAllTables(t *testing.T) {
	var some []string
	for _, stmt := range allStatements() {
		if strings.Trim(stmt, "abc=@AB.01;") == "" {
			some = append(some, stmt)
		}
	}
	state, vague := uint32(7), 0
	for n := 0; n < 1500; n++ {
		text := ""
		for k := step(&state, 10); k >= 0; k-- {
			text += some[step(&state, len(some))]
		}
		s, stmts := loaded(t, text), split(text)
		exact := leastOfAll(stmts, allFields)
		for _, fields := range []string{"", "0", "1", "01", "5", allFields} {
			vague += checkAnswers(t, s, stmts, fields, leastOfAll(stmts, fields), exact)
		}
	}
	if vague < 100 {
		t.Errorf("only %d answers of this test are not exact", vague)
	}
}

// randomProgram has many loads and stores of few fields, of variables that may
// point to something.
func randomProgram(state *uint32) string {
	text := ""
	few := 3 + step(state, 10)
	letter := func() string { return string(rune('a' + step(state, few))) }
	field := func() string { return string(rune('0' + step(state, 1+few/2)%6)) }
	for k := 1 + step(state, 24); k > 0; k-- {
		switch step(state, 5) {
		case 0, 1:
			text += letter() + "=@" + strings.ToUpper(letter()) + ";"
		case 2:
			text += letter() + "=" + letter() + "." + field() + ";"
		case 3:
			text += letter() + "." + field() + "=" + letter() + ";"
		default:
			text += letter() + "=" + letter() + ";"
		}
	}
	return text
}

// Programs of all sizes, each with some texts of fields.
func TestPrograms(t *testing.T) {
	state, vague, texts := uint32(11), 0, fieldTexts()
	for n := 0; n < 1000; n++ {
		text := randomProgram(&state)
		s, stmts := loaded(t, text), split(text)
		exact := leastFacts(stmts, allFields)
		for _, fields := range []string{"", texts[step(&state, 64)], texts[step(&state, 64)], allFields} {
			vague += checkAnswers(t, s, stmts, fields, leastFacts(stmts, fields), exact)
		}
	}
	if vague < 500 {
		t.Errorf("only %d answers of this test are not exact", vague)
	}
}

// Each text of fields counts for its own fields and no other.
func TestEveryTextOfFields(t *testing.T) {
	text := "a=@A;b=@B;d=@D;"
	for i := range allFields {
		f := allFields[i : i+1]
		text += "a." + f + "=d;" + string("efghij"[i]) + "=b." + f + ";"
	}
	s := loaded(t, text)
	for _, fields := range fieldTexts() {
		for i := range allFields {
			v := "efghij"[i : i+1]
			if strings.Contains(fields, allFields[i:i+1]) {
				checkPoints(t, s, v, fields, "", true, alias.OK)
				checkAlias(t, s, v, "d", fields, false, true, alias.OK)
			} else {
				checkPoints(t, s, v, fields, "D", false, alias.OK)
				checkAlias(t, s, v, "d", fields, true, false, alias.OK)
			}
		}
	}
}

// The edges of a load and a store.
func TestLoadsAndStores(t *testing.T) {
	for _, c := range []struct {
		program, v, fields, sites string
		exact                     bool
	}{
		{"b=@B;a.0=b;c=d.0;", "c", "", "B", false}, // bases that point to nothing
		{"b=@B;a.0=b;c=d.0;", "c", "0", "", true},
		{"b=@B;a.0=b;c=a.0;", "c", "0", "", true}, // the same base, and it points to nothing
		{"b=@B;a.0=b;c=a.0;", "c", "", "B", false},
		{"b=@B;a.0=b;c=a.1;", "c", "", "", true}, // two fields are never one
		{"a=@A;b=@B;a.0=b;c=a.1;", "c", "", "", true},
		{"a=@A;a.0=a;a=a.0;", "a", "", "A", true}, // one variable is all
		{"a.0=a;a=a.0;", "a", "", "", true},
		{"a=@A;b.0=a;b=b.0;", "b", "", "A", false}, // what is loaded is the base
		{"a=@A;b.0=a;b=b.0;", "b", "0", "", true},
		{"a=@A;a=@B;b=@B;b=@C;c=@L;a.5=c;d=b.5;", "d", "5", "L", true}, // one site in common
		{"a=@A;a=@B;b=@C;b=@D;c=@L;a.5=c;d=b.5;", "d", "5", "", true},
		{"a=@A;a=@B;b=@C;b=@D;c=@L;a.5=c;d=b.5;", "d", "01234", "L", false},
		{"a=@A;b=@B;a.0=b;b=a;c=b.0;", "c", "0", "AB", true}, // what is stored grows later
		{"a=@A;b=@B;c=@C;a.0=c;d=b.0;d.1=c;e=c.1;", "e", "1", "C", false},
		{"a=@A;b=@B;c=@C;a.0=c;d=b.0;d.1=c;e=c.1;", "e", "0", "C", false},
		{"a=@A;b=@B;c=@C;a.0=c;d=b.0;d.1=c;e=c.1;", "e", "01", "", true},
	} {
		checkPoints(t, loaded(t, c.program), c.v, c.fields, c.sites, c.exact, alias.OK)
	}
}

// Exactness is that of the answer, not of the whole table.
func TestExactAnswers(t *testing.T) {
	s := loaded(t, "a=@A;b=@B;c=@C;d=@D;a.0=c;b.0=d;e=a.0;f=b.0;e=@L;f=@L;")
	checkPoints(t, s, "e", "", "CDL", false, alias.OK)
	checkAlias(t, s, "e", "f", "", true, true, alias.OK)
	checkAlias(t, s, "e", "d", "", true, false, alias.OK)
	checkAlias(t, s, "d", "e", "", true, false, alias.OK)
	checkAlias(t, s, "e", "a", "", false, true, alias.OK)
	checkAlias(t, s, "e", "e", "", true, true, alias.OK)
	s = loaded(t, "a=@A;b.0=a;c=d.0;")
	checkAlias(t, s, "c", "c", "", true, false, alias.OK)
	checkAlias(t, s, "b", "b", "", false, true, alias.OK)
}

// All 12 variables and all 12 sites, and what is far from its new.
func TestFarPointing(t *testing.T) {
	up, down, want, all := "a=@L;", "l=@A;", "", ""
	for i := 0; i < 11; i++ {
		one, next := string(rune('a'+i)), string(rune('b'+i))
		up += next + "=" + one + ";"
		down += one + "=" + next + ";"
	}
	for v := 'a'; v <= 'l'; v++ {
		want += string(v) + ":L;"
		all += "a=@" + strings.ToUpper(string(v)) + ";"
	}
	if b := loaded(t, up).Batch(); b != want {
		t.Errorf("P11: %q: Batch() = %q", up, b)
	}
	if b := loaded(t, down).Batch(); b != strings.ReplaceAll(want, "L", "A") {
		t.Errorf("P11: %q: Batch() = %q", down, b)
	}
	s := loaded(t, all)
	checkPoints(t, s, "a", "", "ABCDEFGHIJKL", true, alias.OK)
	if b := s.Batch(); b != "a:ABCDEFGHIJKL;" {
		t.Errorf("P11: %q: Batch() = %q", all, b)
	}
	if b := alias.New().Batch(); b != "" {
		t.Errorf("P11: with no statement Batch() = %q", b)
	}
}

// A statement names its variables, wherever they stand in it, and no other.
func TestNames(t *testing.T) {
	for _, stmt := range allStatements() {
		s := loaded(t, stmt)
		for v := 0; v < 256; v++ {
			text := string([]byte{byte(v)})
			want := alias.ErrName
			if 'a' <= v && v <= 'l' && strings.Contains(stmt, text) {
				want = alias.OK
			}
			if p, x, e := s.Points(text, ""); e != want || x != (e == alias.OK) || e != alias.OK && p != "" {
				t.Fatalf("P8: %q: Points(%q, \"\") = %q, %v, %d, want %d", stmt, text, p, x, e, want)
			}
			if _, _, e := s.Alias(text, stmt[:1], ""); e != want {
				t.Fatalf("P10: %q: Alias(%q, %q, \"\") = %d, want %d", stmt, text, stmt[:1], e, want)
			}
			if _, _, e := s.Alias(stmt[:1], text, ""); e != want {
				t.Fatalf("P10: %q: Alias(%q, %q, \"\") = %d, want %d", stmt, stmt[:1], text, e, want)
			}
		}
	}
}

// A variable is named no more when the last statement with it is gone.
func TestNamesGo(t *testing.T) {
	s := loaded(t, "a=b;b.0=a;c=@C;")
	s.Drop("a=b;")
	checkPoints(t, s, "b", "", "", true, alias.OK)
	s.Drop("b.0=a;")
	checkPoints(t, s, "b", "", "", false, alias.ErrName)
	checkAlias(t, s, "c", "a", "", false, false, alias.ErrName)
	if b := s.Batch(); b != "c:C;" {
		t.Errorf("P11: Batch() = %q", b)
	}
	s.Add("c=l;")
	checkPoints(t, s, "l", "", "", true, alias.OK)
	if b := s.Batch(); b != "c:C;l:;" {
		t.Errorf("P11: Batch() = %q", b)
	}
}

// Wrong names: with them the fields mean nothing (P1).
func TestWrongNames(t *testing.T) {
	s := loaded(t, "a=@A;b=@A;")
	for _, v := range []string{"", "c", "m", "`", "A", "@", "0", "aa", "ab", "a ", " a", "a=@A;", "\x00", "\xff", "a\x00", "á", strings.Repeat("a", 201), strings.Repeat("a", 1<<20)} {
		for _, fields := range []string{"", "0", "6", "00", "x", strings.Repeat("0", 1<<20)} {
			checkPoints(t, s, v, fields, "", false, alias.ErrName)
			checkAlias(t, s, v, "a", fields, false, false, alias.ErrName)
			checkAlias(t, s, "a", v, fields, false, false, alias.ErrName)
			checkAlias(t, s, v, v, fields, false, false, alias.ErrName)
		}
	}
	checkPoints(t, alias.New(), "a", "", "", false, alias.ErrName)
	checkAlias(t, alias.New(), "a", "a", "", false, false, alias.ErrName)
}

// checkFields asks with one text of fields, right or wrong.
func checkFields(t *testing.T, s *alias.Session, fields string, right bool) {
	t.Helper()
	if right {
		checkPoints(t, s, "a", fields, "A", true, alias.OK)
		checkAlias(t, s, "a", "b", fields, true, true, alias.OK)
		return
	}
	checkPoints(t, s, "a", fields, "", false, alias.ErrField)
	checkAlias(t, s, "a", "b", fields, false, false, alias.ErrField)
}

// Texts of fields and what is none: all 256 bytes alone, ahead of and behind a
// field, all texts of up to three bytes of a few, and long ones.
func TestWrongFields(t *testing.T) {
	s := loaded(t, "a=@A;b=@A;")
	right := map[string]bool{}
	for _, fields := range fieldTexts() {
		right[fields] = true
		checkFields(t, s, fields, true)
	}
	for b := 0; b < 256; b++ {
		one := string([]byte{byte(b)})
		for _, fields := range []string{one, "2" + one, one + "2", "02" + one, one + "35", "0" + one + "5"} {
			checkFields(t, s, fields, right[fields])
		}
	}
	texts := []string{""}
	for length := 0; length < 3; length++ {
		var longer []string
		for _, text := range texts {
			for _, b := range "/01456:a" {
				longer = append(longer, text+string(b))
				checkFields(t, s, text+string(b), right[text+string(b)])
			}
		}
		texts = longer
	}
	for _, fields := range []string{"0123455", "0123456", "00", "0123450", "543210", "012345 ", "01234567", strings.Repeat("5", 201), strings.Repeat("012345", 1<<18)} {
		checkFields(t, s, fields, false)
	}
}

// Strings that are too long are refused by their length: they are not worked at.
func TestLongNamesAndFieldsAreNotRead(t *testing.T) {
	s := loaded(t, "a=@A;b=@A;")
	long := strings.Repeat("0", 1<<24)
	work := testing.AllocsPerRun(1000, func() {
		s.Points(long, long)
		s.Points("a", long)
		s.Alias(long, "a", long)
		s.Alias("a", long, long)
		s.Alias("a", "b", long)
	})
	if work != 0 {
		t.Errorf("P1: strings that are too long were worked at: %v allocations", work)
	}
}

// Answers go by the program at the time of the call, in each of two sessions,
// and asking leaves no trace (P1, P2, P7).
func TestAnswersBehindChanges(t *testing.T) {
	state, texts, ordered := uint32(3), fieldTexts(), orderedFields()
	var lengths [7]int
	sessions := [2]*alias.Session{alias.New(), alias.New()}
	models := [2]map[string]bool{{}, {}}
	for n := 0; n < 600; n++ {
		i := step(&state, 2)
		stmts := split(randomProgram(&state))
		stmt := stmts[step(&state, len(stmts))]
		present := split(printOf(models[i]))
		if len(present) > 18 {
			sessions[i].Load("")
			models[i] = map[string]bool{}
		} else if len(present) > 8 && step(&state, 3) == 0 {
			gone := present[step(&state, len(present))]
			sessions[i].Drop(gone)
			delete(models[i], gone)
		}
		sessions[i].Add(stmt)
		models[i][stmt] = true
		for k := range sessions {
			present := split(printOf(models[k]))
			exact, fields := leastFacts(present, allFields), texts[step(&state, 64)]
			for _, asked := range []string{"", fields, ""} {
				checkAnswers(t, sessions[k], present, asked, leastFacts(present, asked), exact)
				checkReasons(t, sessions[k], present)
			}
			checkRefine(t, sessions[k], present, ordered, &lengths)
			if p := sessions[k].Print(); p != strings.Join(present, "") {
				t.Fatalf("P1: behind asking Print() = %q, want %q", p, present)
			}
		}
	}
}

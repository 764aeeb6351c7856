package alias_test

import (
	"regexp"
	"sort"
	"strings"
	"testing"

	"alias/alias"
)

// How a step of a reason is written.
var oneStep = regexp.MustCompile(`^([a-l][A-L])<(?:([a-l]=@[A-L];)|([a-l]=[a-l];)|([a-l]=[a-l]\.[0-5];)([a-l]\.[0-5]=[a-l];)([A-L]))`)

// rests tells by the document's own words which statements and which facts a
// step goes by, and whether it tells of the step's own fact.
func rests(m []string) ([]string, []string, bool) {
	fact, made, copied, load, store, p := m[1], m[2], m[3], m[4], m[5], m[6]
	switch {
	case made != "":
		return []string{made}, nil, made[0] == fact[0] && made[3] == fact[1]
	case copied != "":
		return []string{copied}, []string{copied[2:3] + fact[1:]}, copied[0] == fact[0]
	}
	facts := []string{store[0:1] + p, load[2:3] + p, store[4:5] + fact[1:]}
	return []string{load, store}, facts, load[0] == fact[0] && load[4] == store[2]
}

// faultOf tells what is wrong with a reason for a fact by P14, or nothing.
func faultOf(stmts []string, reason string, goal string) string {
	present := map[string]bool{}
	for _, stmt := range stmts {
		present[stmt] = true
	}
	known, last := map[string]bool{}, ""
	for reason != "" {
		m := oneStep.FindStringSubmatch(reason)
		if m == nil {
			return "no step at " + reason
		}
		used, needed, own := rests(m)
		if !own {
			return "no step of its fact: " + m[0]
		}
		for _, stmt := range used {
			if !present[stmt] {
				return "no statement of the program: " + stmt
			}
		}
		for _, fact := range needed {
			if !known[fact] {
				return "not known ahead of " + m[0] + ": " + fact
			}
		}
		if last = m[1]; known[last] {
			return "twice: " + last
		}
		known[last] = true
		reason = reason[len(m[0]):]
	}
	if last != goal {
		return "the last fact is not " + goal
	}
	return ""
}

// idleIn answers a fact of a right reason that no later step needs, if there is
// one ahead of the last.
func idleIn(reason string) string {
	needed := map[string]bool{}
	var made []string
	for reason != "" {
		m := oneStep.FindStringSubmatch(reason)
		_, facts, _ := rests(m)
		for _, fact := range facts {
			needed[fact] = true
		}
		made = append(made, m[1])
		reason = reason[len(m[0]):]
	}
	for _, fact := range made[:len(made)-1] {
		if !needed[fact] {
			return fact
		}
	}
	return ""
}

// checkReasons asks a session for the reason of every fact that there could be.
// It counts the reasons that go by a load.
func checkReasons(t *testing.T, s *alias.Session, stmts []string) int {
	t.Helper()
	exact, named, loads := leastFacts(stmts, allFields), namedIn(stmts), 0
	for v := byte('a'); v <= 'l'; v++ {
		for o := byte('A'); o <= 'L'; o++ {
			goal := string([]byte{v, o})
			want := alias.OK
			if !strings.Contains(named, goal[:1]) {
				want = alias.ErrName
			} else if !exact[[2]byte{v, o}] {
				want = alias.ErrNone
			}
			reason, e := s.Why(goal[:1], goal[1:])
			if e != want || want != alias.OK && reason != "" {
				t.Fatalf("P13: %q: Why(%q, %q) = %q, %d, want %d", stmts, goal[:1], goal[1:], reason, e, want)
			}
			if want != alias.OK {
				continue
			}
			if fault := faultOf(stmts, reason, goal); fault != "" {
				t.Fatalf("P14: %q: Why(%q, %q) = %q: %s", stmts, goal[:1], goal[1:], reason, fault)
			}
			if idle := idleIn(reason); idle != "" {
				t.Fatalf("%q: Why(%q, %q) = %q: %s is idle", stmts, goal[:1], goal[1:], reason, idle)
			}
			loads += strings.Count(reason, ".") / 2
		}
	}
	return loads
}

// orderedFields lists the texts of fields, the short ones first and those as
// short by rising order.
func orderedFields() []string {
	texts := fieldTexts()
	sort.Slice(texts, func(i, j int) bool {
		if len(texts[i]) != len(texts[j]) {
			return len(texts[i]) < len(texts[j])
		}
		return texts[i] < texts[j]
	})
	return texts
}

// checkRefine asks a session for the fields of every variable, and holds the
// answers against the first text in order that gives what is exact. It counts
// the answers of each length.
func checkRefine(t *testing.T, s *alias.Session, stmts []string, ordered []string, lengths *[7]int) {
	t.Helper()
	exact, want := leastFacts(stmts, allFields), map[byte]string{}
	named := namedIn(stmts)
	for _, fields := range ordered {
		if len(want) == len(named) {
			break
		}
		told := leastFacts(stmts, fields)
		for i := range named {
			if _, found := want[named[i]]; !found && told.of(named[i]) == exact.of(named[i]) {
				want[named[i]] = fields
			}
		}
	}
	for v := byte('a'); v <= 'l'; v++ {
		e := alias.ErrName
		fields, found := want[v]
		if found {
			e = alias.OK
			lengths[len(fields)]++
		}
		checkOneRefine(t, s, string([]byte{v}), fields, e)
	}
}

func checkOneRefine(t *testing.T, s *alias.Session, v string, fields string, want alias.Errno) {
	t.Helper()
	if f, e := s.Refine(v); f != fields || e != want {
		t.Errorf("P12: %q: Refine(%.20q) = %q, %d, want %q, %d", s.Print(), v, f, e, fields, want)
	}
}

func checkOneWhy(t *testing.T, s *alias.Session, v string, o string, reason string, want alias.Errno) {
	t.Helper()
	if r, e := s.Why(v, o); r != reason || e != want {
		t.Errorf("P13: %q: Why(%.20q, %.20q) = %q, %d, want %q, %d", s.Print(), v, o, r, e, reason, want)
	}
}

// The document's own examples of P12 to P14.
func TestExamplesOfReasons(t *testing.T) {
	const program = "a=@A;b=@B;c=@C;d=@D;a.0=c;b.0=d;e=a.0;f=b.0;"
	s := loaded(t, program)
	checkOneRefine(t, s, "e", "0", alias.OK)
	checkOneRefine(t, s, "a", "", alias.OK)
	checkOneRefine(t, s, "g", "", alias.ErrName)
	checkOneWhy(t, s, "e", "D", "", alias.ErrNone)
	checkReasons(t, s, split(program))
	if fault := faultOf(split(program), "cC<c=@C;aA<a=@A;eC<e=a.0;a.0=c;A", "eC"); fault != "" {
		t.Errorf("P14: this test refuses the document's own reason: %s", fault)
	}
	s.Add("b=a;")
	checkReasons(t, s, split(program+"b=a;"))
	s.Drop("b=a;")
	checkReasons(t, s, split(program))
}

// What faultOf must refuse, so that the other tests do refuse it.
func TestFaultsOfReasons(t *testing.T) {
	stmts := split("a=@A;a=@C;b=@B;c=@C;d=c;a.0=c;a.1=c;b.0=c;e=a.0;f=b;")
	for _, c := range []struct{ reason, goal string }{
		{"", "aA"},
		{"aA<a=@A;", "aB"},
		{"aA<a=@A;aA<a=@A;", "aA"},
		{"aA<a=@C;", "aA"},
		{"bA<a=@A;", "bA"},
		{"bA<b=@A;", "bA"},
		{"dC<d=c;", "dC"},
		{"dC<d=c;cC<c=@C;", "dC"},
		{"cC<c=@C;dC<d=c;cC<c=@C;", "cC"},
		{"cC<c=@C;fC<f=b;", "fC"},
		{"cC<c=@C;fC<d=c;", "fC"},
		{"aA<a=@A;eC<e=a.0;a.0=c;A", "eC"},
		{"cC<c=@C;eC<e=a.0;a.0=c;A", "eC"},
		{"cC<c=@C;aA<a=@A;eC<e=a.0;a.0=c;B", "eC"},
		{"cC<c=@C;aA<a=@A;eC<e=a.0;a.0=c;", "eC"},
		{"cC<c=@C;aA<a=@A;eC<e=a.0;A", "eC"},
		{"cC<c=@C;aA<a=@A;eC<a.0=c;e=a.0;A", "eC"},
		{"cC<c=@C;aA<a=@A;eC<e=a.0;a.1=c;A", "eC"},
		{"cC<c=@C;aA<a=@A;eC<e=a.0;b.0=c;A", "eC"},
		{"cC<c=@C;bB<b=@B;eC<e=a.0;b.0=c;B", "eC"},
		{"cC<c=@C;aA<a=@A;dC<e=a.0;a.0=c;A", "dC"},
		{"cC<c=@C;aA<a=@A;eA<e=a.0;a.0=c;A", "eA"},
		{"cC<c=@C;aA<a=@A;eC<e=a.0;a.0=c;A;", "eC"},
		{"cC<c=@C;aA<a=@A;eC<e=a.0;a.0=c;Ae", "eC"},
		{"cC<c=@C; aA<a=@A;", "aA"},
	} {
		if faultOf(stmts, c.reason, c.goal) == "" {
			t.Errorf("this test lets %q go as a reason for %s", c.reason, c.goal)
		}
	}
}

// Programs of all sizes.
func TestReasonsOfPrograms(t *testing.T) {
	state, loads := uint32(5), 0
	for n := 0; n < 4000; n++ {
		text := randomProgram(&state)
		loads += checkReasons(t, loaded(t, text), split(text))
	}
	if loads < 2000 {
		t.Errorf("the reasons of this test have only %d steps by a load", loads)
	}
}

// The edges of a reason: facts that could be shown by themselves alone, loads
// and stores of one base, bases with one common site of several, long ways.
func TestEdgesOfReasons(t *testing.T) {
	down, up := "l=@L;", "a=@A;a.0=a;"
	for i := 0; i < 11; i++ {
		one, next := string(rune('a'+i)), string(rune('b'+i))
		down += one + "=" + next + ";"
		up += next + "=" + one + ".0;" + next + ".0=" + next + ";"
	}
	for _, text := range []string{
		"",
		"a=b;b=a;",
		"a=b;b=a;a=@A;",
		"a=a;",
		"a=@A;a=a;",
		"a=a.0;a.0=a;",
		"a=@A;a=a.0;a.0=a;",
		"a=b.0;b.0=a;b=@B;",
		"a=b.0;b.0=c;b=@B;c=@A;",
		"a=b.0;b.0=c;c=@A;",
		"a=b.0;c.0=d;b=@B;c=@C;d=@D;",
		"a=b.0;c.1=d;b=@C;c=@C;d=@D;",
		"a=b.0;c.0=d;b=@B;b=@L;c=@C;c=@L;d=@A;d=@L;",
		"a=b.0;c.0=d;e.0=f;b=@B;c=@C;e=@B;d=@D;f=@D;",
		"a=@A;a=@B;a=@C;a=@D;a=@E;a=@F;a=@G;a=@H;a=@I;a=@J;a=@K;a=@L;l=a;l.5=a;k=l.5;",
		"a=@A;a.0=a;b=a.0;b.1=b;c=b.1;c.2=c;d=c.2;d.3=d;e=d.3;e.4=e;f=e.4;f.5=f;g=f.5;",
		down,
		up,
		full(),
	} {
		checkReasons(t, loaded(t, text), split(text))
	}
}

// A reason of every fact that there is: all 12 variables point to all 12 sites.
func TestReasonsOfAFullTable(t *testing.T) {
	text := "a=l;"
	for i := 0; i < 11; i++ {
		text += string(rune('b'+i)) + "=" + string(rune('a'+i)) + ";"
	}
	for i := 0; i < 12; i++ {
		text += string(rune('a'+i)) + "=@" + string(rune('L'-i)) + ";"
	}
	s, stmts := loaded(t, text), split(text)
	if len(leastFacts(stmts, allFields)) != 144 {
		t.Fatal("this test wants all facts")
	}
	checkReasons(t, s, stmts)
}

// Wrong sites: none, and what no site is; wrong names are told first (P1).
func TestWrongReasons(t *testing.T) {
	s := loaded(t, "a=@A;b=c;l=@L;")
	for b := 0; b < 256; b++ {
		o := string([]byte{byte(b)})
		switch o {
		case "A":
			checkOneWhy(t, s, "a", o, "aA<a=@A;", alias.OK)
			checkOneWhy(t, s, "l", o, "", alias.ErrNone)
		case "L":
			checkOneWhy(t, s, "l", o, "lL<l=@L;", alias.OK)
			checkOneWhy(t, s, "a", o, "", alias.ErrNone)
		default:
			checkOneWhy(t, s, "a", o, "", alias.ErrNone)
			checkOneWhy(t, s, "l", o, "", alias.ErrNone)
		}
		checkOneWhy(t, s, "b", o, "", alias.ErrNone)
		checkOneWhy(t, s, "a", "A"+o, "", alias.ErrNone)
		checkOneWhy(t, s, "a", o+"A", "", alias.ErrNone)
		if !strings.Contains("abcl", o) {
			checkOneWhy(t, s, o, "A", "", alias.ErrName)
			checkOneRefine(t, s, o, "", alias.ErrName)
		}
	}
	long := strings.Repeat("A", 1<<20)
	for _, o := range []string{"", "AA", "aA", "A;", long[:200], long[:201], long} {
		checkOneWhy(t, s, "a", o, "", alias.ErrNone)
		for _, v := range []string{"", "d", "m", "A", "aa", "ab", "a ", " a", "\x00", "\xff", "á", strings.Repeat("a", 1<<20)} {
			checkOneWhy(t, s, v, o, "", alias.ErrName)
			checkOneWhy(t, s, v, "A", "", alias.ErrName)
			checkOneRefine(t, s, v, "", alias.ErrName)
		}
	}
	checkOneWhy(t, alias.New(), "a", "A", "", alias.ErrName)
	checkOneRefine(t, alias.New(), "a", "", alias.ErrName)
}

// Strings that are too long are refused by their length: they are not worked at.
func TestLongNamesAndSitesAreNotRead(t *testing.T) {
	s := loaded(t, "a=@A;b=@A;")
	long := strings.Repeat("A", 1<<24)
	work := testing.AllocsPerRun(1000, func() {
		s.Refine(long)
		s.Why(long, long)
		s.Why(long, "A")
		s.Why("a", long)
	})
	if work != 0 {
		t.Errorf("P1: strings that are too long were worked at: %v allocations", work)
	}
}

// Programs of all sizes, and answers of all the lengths that these have.
func TestRefineOfPrograms(t *testing.T) {
	state, ordered := uint32(13), orderedFields()
	var lengths [7]int
	for n := 0; n < 1000; n++ {
		text := randomProgram(&state)
		checkRefine(t, loaded(t, text), split(text), ordered, &lengths)
	}
	if lengths[0] < 100 || lengths[1] < 100 || lengths[2] < 20 {
		t.Errorf("the answers of this test have these lengths: %v", lengths)
	}
}

// Every text of fields is the answer for some program: c loads each of these
// fields from a base that points elsewhere, and k the others.
func TestRefineAnswersEveryText(t *testing.T) {
	for _, fields := range fieldTexts() {
		text := "a=@A;b=@B;c=l;d=@D;"
		for i := range allFields {
			f, v := allFields[i:i+1], "k"
			if strings.Contains(fields, f) {
				v = "c"
			}
			text += "a." + f + "=d;" + v + "=b." + f + ";"
		}
		s := loaded(t, text)
		checkOneRefine(t, s, "c", fields, alias.OK)
		checkOneRefine(t, s, "d", "", alias.OK)
	}
}

// Where several texts would do, the shortest goes ahead of a lower one, and the
// lowest of those as short ahead of the others.
func TestRefineChooses(t *testing.T) {
	for _, c := range []struct{ program, v, fields string }{
		{"a=@A;b=@B;d=@D;a.1=d;c=b.1;a.0=c;e=b.0;", "e", "0"}, // 0 or 1
		{"a=@A;b=@B;d=@D;a.0=d;c=b.0;a.1=c;e=b.1;", "e", "0"},
		// 5 alone, or 0 and 1: the lower text is the longer one.
		{"a=@A;b=@B;d=@D;a.0=d;c=b.0;a.1=d;c=b.1;a.5=c;e=b.5;", "e", "5"},
		{"a=@A;b=@B;d=@D;a.0=d;c=b.0;a.1=d;c=b.1;a.5=c;e=b.5;", "c", "01"},
		// One of 0 and 4, and one of 1 and 3: 01, 03, 14 and 34 would do.
		{"a=@A;b=@B;d=@D;a.4=d;c=b.4;a.0=c;e=b.0;a.3=d;f=b.3;a.1=f;e=b.1;", "e", "01"},
		// One of 1 and 2, and one of 2 and 3: 2 alone does both.
		{"a=@A;b=@B;d=@D;a.2=d;c=b.2;a.1=c;e=b.1;a.3=c;e=b.3;", "e", "2"},
		{"a=@A;b.0=a;c=d.0;", "c", "0"}, // bases that point to nothing
		{"a=@A;b.0=a;c=d.0;c=a;", "c", ""},
		{"a=@A;b.0=a;b=b.0;", "b", "0"}, // what is loaded is the base
		{"a=b;", "b", ""},
	} {
		checkOneRefine(t, loaded(t, c.program), c.v, c.fields, alias.OK)
	}
}

// The same program has the same reasons, whichever way led to it (P2).
func TestSameProgramSameReasons(t *testing.T) {
	state := uint32(19)
	for n := 0; n < 200; n++ {
		text := randomProgram(&state)
		one, other := loaded(t, text), alias.New()
		stmts := split(text)
		for i := range stmts {
			other.Add(stmts[len(stmts)-1-i])
			other.Refine("a")
			other.Why("a", "A")
		}
		for v := 'a'; v <= 'l'; v++ {
			for o := 'A'; o <= 'L'; o++ {
				r, e := one.Why(string(v), string(o))
				if again, x := other.Why(string(v), string(o)); again != r || x != e {
					t.Fatalf("P2: %q: Why(%c, %c) = %q, %d and %q, %d", text, v, o, r, e, again, x)
				}
			}
		}
	}
}

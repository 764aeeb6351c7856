package alias_test

import (
	"regexp"
	"sort"
	"strings"
	"testing"

	"alias/alias"
)

// A statement and the beginning of one, written apart from the program's own
// reading, so that the two can be held against each other.
const (
	stmtPattern  = `(?:[a-l]=@[A-L];|[a-l]=[a-l];|[a-l]=[a-l]\.[0-5];|[a-l]\.[0-5]=[a-l];)`
	startPattern = `(?:[a-l](?:=(?:@[A-L]?|[a-l](?:\.[0-5]?)?)?|\.(?:[0-5](?:=[a-l]?)?)?)?)?`
)

var (
	oneStmt    = regexp.MustCompile(`^` + stmtPattern)
	oneStart   = regexp.MustCompile(`^(?:` + stmtPattern + `|` + startPattern + `)`)
	manyStart  = regexp.MustCompile(`^` + stmtPattern + `*` + startPattern)
	manyWhole  = regexp.MustCompile(`^` + stmtPattern + `*$`)
	exactlyOne = regexp.MustCompile(`^` + stmtPattern + `$`)
)

func init() {
	// The longest beginning is wanted, not the first one that the pattern finds.
	oneStart.Longest()
	manyStart.Longest()
}

// wantLoad and wantOne tell what P3 and P4 ask of a text's form, by patterns.
func wantLoad(text string) (alias.Errno, int) {
	if len(text) > 200 {
		return alias.ErrLong, 0
	}
	if manyWhole.MatchString(text) {
		return alias.OK, 0
	}
	return alias.ErrForm, len(manyStart.FindString(text))
}

func wantOne(text string) (alias.Errno, int) {
	if len(text) > 200 {
		return alias.ErrLong, 0
	}
	if exactlyOne.MatchString(text) {
		return alias.OK, 0
	}
	return alias.ErrForm, len(oneStart.FindString(text))
}

// split cuts a text of statements and answers them sorted, each once.
func split(text string) []string {
	var out []string
	seen := map[string]bool{}
	for text != "" {
		stmt := oneStmt.FindString(text)
		if stmt == "" {
			return nil
		}
		text = text[len(stmt):]
		if !seen[stmt] {
			seen[stmt] = true
			out = append(out, stmt)
		}
	}
	sort.Strings(out)
	return out
}

// allStatements lists every statement that there is.
func allStatements() []string {
	var out []string
	for x := 'a'; x <= 'l'; x++ {
		for o := 'A'; o <= 'L'; o++ {
			out = append(out, string(x)+"=@"+string(o)+";")
		}
		for y := 'a'; y <= 'l'; y++ {
			out = append(out, string(x)+"="+string(y)+";")
			for f := '0'; f <= '5'; f++ {
				out = append(out, string(x)+"="+string(y)+"."+string(f)+";", string(x)+"."+string(f)+"="+string(y)+";")
			}
		}
	}
	return out
}

// loaded makes a session with a program.
func loaded(t *testing.T, text string) *alias.Session {
	t.Helper()
	s := alias.New()
	if e, at := s.Load(text); e != alias.OK || at != 0 {
		t.Fatalf("Load(%q) = %d, %d", text, e, at)
	}
	return s
}

// full is a program of 24 statements, of all four kinds.
func full() string {
	text := ""
	for i := 0; i < 6; i++ {
		v, f := string(rune('a'+i)), string(rune('0'+i))
		text += v + "=@" + string(rune('A'+i)) + ";" + v + "=l;" + v + "=k." + f + ";" + v + "." + f + "=j;"
	}
	return text
}

// checkText gives one text to Load, Add and Drop, each of a session with a
// program, and holds answer and program against what the patterns tell.
func checkText(t *testing.T, text string) {
	t.Helper()
	const kept = "k.3=k;k=@K;"
	s := loaded(t, kept)
	wantE, wantAt := wantLoad(text)
	wantPrint := kept
	if wantE == alias.OK {
		wantPrint = strings.Join(split(text), "")
	}
	if e, at := s.Load(text); e != wantE || at != wantAt {
		t.Errorf("P3: Load(%.80q) = %d, %d, want %d, %d", text, e, at, wantE, wantAt)
	}
	if p := s.Print(); p != wantPrint {
		t.Errorf("P1, P3: behind Load(%.80q) Print() = %q, want %q", text, p, wantPrint)
	}
	checkSingle(t, text, kept)
}

func checkSingle(t *testing.T, text string, kept string) {
	t.Helper()
	wantE, wantAt := wantOne(text)
	wantPrint := kept
	if wantE == alias.OK {
		wantPrint = strings.Join(split(kept+text), "")
	}
	s := loaded(t, kept)
	if e, at := s.Add(text); e != wantE || at != wantAt {
		t.Errorf("P4: Add(%.80q) = %d, %d, want %d, %d", text, e, at, wantE, wantAt)
	}
	if p := s.Print(); p != wantPrint {
		t.Errorf("P1, P4: behind Add(%.80q) Print() = %q, want %q", text, p, wantPrint)
	}
	wantPrint = kept
	if wantE == alias.OK {
		wantPrint = strings.Replace(kept, text, "", 1)
	}
	if wantE == alias.OK && wantPrint == kept {
		wantE = alias.ErrNone
	}
	s = loaded(t, kept)
	if e, at := s.Drop(text); e != wantE || at != wantAt {
		t.Errorf("P5: Drop(%.80q) = %d, %d, want %d, %d", text, e, at, wantE, wantAt)
	}
	if p := s.Print(); p != wantPrint {
		t.Errorf("P1, P5: behind Drop(%.80q) Print() = %q, want %q", text, p, wantPrint)
	}
}

// The document's own examples of P3 to P6.
func TestExamples(t *testing.T) {
	s := loaded(t, "a=@A;b=@B;c=@C;d=@D;a.0=c;b.0=d;e=a.0;f=b.0;")
	const printed = "a.0=c;a=@A;b.0=d;b=@B;c=@C;d=@D;e=a.0;f=b.0;"
	if p := s.Print(); p != printed {
		t.Errorf("P6: Print() = %q", p)
	}
	if e, at := s.Add("b=a;"); e != alias.OK || at != 0 {
		t.Errorf("P4: %d, %d", e, at)
	}
	if p := s.Print(); p != "a.0=c;a=@A;b.0=d;b=@B;b=a;c=@C;d=@D;e=a.0;f=b.0;" {
		t.Errorf("P4, P6: Print() = %q", p)
	}
	if e, at := s.Drop("b=a;"); e != alias.OK || at != 0 {
		t.Errorf("P5: %d, %d", e, at)
	}
	if p := s.Print(); p != printed {
		t.Errorf("P5, P6: Print() = %q", p)
	}
	if e, at := s.Add("a=b.6;"); e != alias.ErrForm || at != 4 {
		t.Errorf("P4: %d, %d", e, at)
	}
	if e, at := s.Add("a=b"); e != alias.ErrForm || at != 3 {
		t.Errorf("P4: %d, %d", e, at)
	}
	if e, at := s.Load("a=b;;"); e != alias.ErrForm || at != 4 {
		t.Errorf("P3: %d, %d", e, at)
	}
}

// The order in which the refusals are named (P1), and what the answer is then.
func TestFirstNamedRefusal(t *testing.T) {
	many := strings.Join(allStatements()[:30], "")
	if len(many) > 199 {
		t.Fatal("the text is too long for this test")
	}
	for _, c := range []struct {
		text string
		e    alias.Errno
		at   int
	}{
		{many, alias.ErrFull, 0},
		{many + ";", alias.ErrForm, len(many)},
		{many + "a", alias.ErrForm, len(many) + 1},
		{many + strings.Repeat("a", 201-len(many)), alias.ErrLong, 0},
	} {
		s := loaded(t, "a=b;")
		if e, at := s.Load(c.text); e != c.e || at != c.at {
			t.Errorf("P1, P3: Load(%q) = %d, %d, want %d, %d", c.text, e, at, c.e, c.at)
		}
		if p := s.Print(); p != "a=b;" {
			t.Errorf("P1: behind Load(%q) Print() = %q", c.text, p)
		}
	}
	s := loaded(t, full())
	for _, c := range []struct {
		text     string
		add      alias.Errno
		drop     alias.Errno
		addPlace int
	}{
		{"l=l;", alias.ErrFull, alias.ErrNone, 0},
		{"l=l", alias.ErrForm, alias.ErrForm, 3},
		{"l=l;l", alias.ErrForm, alias.ErrForm, 4},
		{strings.Repeat("l=l;", 51), alias.ErrLong, alias.ErrLong, 0},
	} {
		if e, at := s.Add(c.text); e != c.add || at != c.addPlace {
			t.Errorf("P1, P4: Add(%.20q) = %d, %d, want %d, %d", c.text, e, at, c.add, c.addPlace)
		}
		if e, at := s.Drop(c.text); e != c.drop || at != c.addPlace {
			t.Errorf("P1, P5: Drop(%.20q) = %d, %d, want %d, %d", c.text, e, at, c.drop, c.addPlace)
		}
	}
	if p := s.Print(); p != strings.Join(split(full()), "") {
		t.Errorf("P1: Print() = %q", p)
	}
}

// All texts of up to four bytes, of bytes from every class and from its edges.
func TestShortTexts(t *testing.T) {
	texts := []string{""}
	for length := 0; length <= 4; length++ {
		var longer []string
		for _, text := range texts {
			checkText(t, text)
			for _, b := range []byte("almAL=.@;056 ") {
				longer = append(longer, text+string([]byte{b}))
			}
		}
		texts = longer
	}
}

// Every byte at every place of a program, instead of what stands there, ahead
// of it, and with all behind it gone.
func TestEveryByteAtEveryPlace(t *testing.T) {
	const program = "b=@B;b=c;b=c.1;b.1=c;"
	for at := 0; at <= len(program); at++ {
		for b := 0; b < 256; b++ {
			one := string([]byte{byte(b)})
			checkText(t, program[:at]+one+program[at:])
			checkText(t, program[:at]+one)
			if at < len(program) {
				checkText(t, program[:at]+one+program[at+1:])
			}
		}
		checkText(t, program[:at])
		checkText(t, program[at:])
	}
}

// The bound of a text's length, and texts far above it.
func TestLongTexts(t *testing.T) {
	for _, unit := range []string{"a=b;", "a=@A;", "a=b.0;", "a.0=b;", "x", ";", "\x00", "\xff", "é"} {
		for _, length := range []int{196, 198, 199, 200, 201, 202, 204, 1000, 1 << 20} {
			checkText(t, strings.Repeat(unit, length/len(unit)+1)[:length])
		}
	}
}

// A text above the bound is refused by its length: it is not read (P1).
func TestLongTextIsNotRead(t *testing.T) {
	s := loaded(t, "a=b;")
	long := strings.Repeat("a=b;", 1<<20)
	work := testing.AllocsPerRun(10, func() {
		s.Load(long)
		s.Add(long)
		s.Drop(long)
	})
	if work != 0 {
		t.Errorf("P1: texts that are too long were worked at: %v allocations", work)
	}
}

// Every statement that there is: read, written, found again, taken away.
func TestEveryStatement(t *testing.T) {
	for _, stmt := range allStatements() {
		checkText(t, stmt)
		s := alias.New()
		for i := 0; i < 2; i++ {
			if e, at := s.Add(stmt); e != alias.OK || at != 0 {
				t.Errorf("P4: Add(%q) = %d, %d", stmt, e, at)
			}
			if p := s.Print(); p != stmt {
				t.Errorf("P6: behind Add(%q) Print() = %q", stmt, p)
			}
		}
		if e, at := s.Drop(stmt); e != alias.OK || at != 0 {
			t.Errorf("P5: Drop(%q) = %d, %d", stmt, e, at)
		}
		if p := s.Print(); p != "" {
			t.Errorf("P5: behind Drop(%q) Print() = %q", stmt, p)
		}
		if e, at := s.Drop(stmt); e != alias.ErrNone || at != 0 {
			t.Errorf("P5: Drop(%q) again = %d, %d", stmt, e, at)
		}
	}
}

// Every two statements are told apart and stand in their order (P6).
func TestOrderOfEveryTwo(t *testing.T) {
	var some []string
	for _, stmt := range allStatements() {
		if strings.Trim(stmt, "abl=@AL.05;") == "" {
			some = append(some, stmt)
		}
	}
	for _, one := range some {
		for _, other := range some {
			if p := loaded(t, one+other).Print(); p != strings.Join(split(one+other), "") {
				t.Errorf("P6: behind Load(%q) Print() = %q", one+other, p)
			}
		}
	}
}

// The bound of a program's statements, for Load, Add and Drop.
func TestFullProgram(t *testing.T) {
	s := loaded(t, full())
	want := strings.Join(split(full()), "")
	if len(split(full())) != 24 {
		t.Fatal("this test wants 24 statements")
	}
	for _, stmt := range split(full()) {
		if e, at := s.Add(stmt); e != alias.OK || at != 0 {
			t.Errorf("P4: Add(%q), which is there, = %d, %d", stmt, e, at)
		}
	}
	if e, at := s.Add("l=@L;"); e != alias.ErrFull || at != 0 || s.Print() != want {
		t.Errorf("P4: a 25th statement: %d, %d, %q", e, at, s.Print())
	}
	if e, at := s.Load(full() + full()[:63]); e != alias.OK || at != 0 || s.Print() != want {
		t.Errorf("P3: 24 different statements: %d, %d, %q", e, at, s.Print())
	}
	if e, at := s.Load("l=@L;" + full()); e != alias.ErrFull || at != 0 || s.Print() != want {
		t.Errorf("P3: 25 different statements: %d, %d, %q", e, at, s.Print())
	}
	if e, at := s.Drop("a=l;"); e != alias.OK || at != 0 {
		t.Errorf("P5: %d, %d", e, at)
	}
	if e, at := s.Add("l=@L;"); e != alias.OK || at != 0 {
		t.Errorf("P4: a 24th statement: %d, %d", e, at)
	}
	if p := s.Print(); p != strings.Replace(want, "a=l;", "", 1)+"l=@L;" {
		t.Errorf("P4 to P6: Print() = %q", p)
	}
	if e, at := s.Load(""); e != alias.OK || at != 0 || s.Print() != "" {
		t.Errorf("P3: the text of no statement: %d, %d, %q", e, at, s.Print())
	}
}

// step is a small generator with a fixed beginning, so that every run of the
// tests is the same.
func step(state *uint32, below int) int {
	*state = *state*1664525 + 1013904223
	return int(*state>>8) % below
}

// Long runs of changes to three sessions, held against plain sets (P1 to P6).
func TestRunsOfChanges(t *testing.T) {
	var some []string
	for _, stmt := range allStatements() {
		if strings.Trim(stmt, "ab=@AB.0;") == "" || strings.Trim(stmt, "l=.5;") == "" {
			some = append(some, stmt)
		}
	}
	var sessions [3]*alias.Session
	var models [3]map[string]bool
	for i := range sessions {
		sessions[i] = alias.New()
		models[i] = map[string]bool{}
	}
	state := uint32(1)
	for n := 0; n < 30000; n++ {
		i, stmt := step(&state, 3), some[step(&state, len(some))]
		model := models[i]
		e, at, want := alias.OK, 0, alias.OK
		switch what := step(&state, 100); {
		case what < 60:
			e, at = sessions[i].Add(stmt)
			if len(model) == 24 && !model[stmt] {
				want = alias.ErrFull
			} else {
				model[stmt] = true
			}
		case what < 99:
			e, at = sessions[i].Drop(stmt)
			if !model[stmt] {
				want = alias.ErrNone
			}
			delete(model, stmt)
		default:
			e, at = sessions[i].Load(stmt + some[0] + stmt)
			models[i] = map[string]bool{stmt: true, some[0]: true}
		}
		if e != want || at != 0 {
			t.Fatalf("P3 to P5: change %d, of %q: %d, %d, want %d, 0", n, stmt, e, at, want)
		}
		for k := range sessions {
			if p := sessions[k].Print(); p != printOf(models[k]) {
				t.Fatalf("P2, P6: behind change %d session %d prints %q, want %q", n, k, p, printOf(models[k]))
			}
		}
	}
}

// printOf writes a plain set of statements by rising order.
func printOf(model map[string]bool) string {
	var out []string
	for stmt := range model {
		out = append(out, stmt)
	}
	sort.Strings(out)
	return strings.Join(out, "")
}

// New sessions are empty, and none is reached through another one (P2).
func TestSessionsShareNothing(t *testing.T) {
	one, other := alias.New(), alias.New()
	if one.Print() != "" || other.Print() != "" {
		t.Error("P2: a new session has a statement")
	}
	one.Load(full())
	other.Load(full())
	one.Drop("a=l;")
	other.Add("l=@L;")
	third := alias.New()
	want := strings.Join(split(full()), "")
	if p := other.Print(); p != want {
		t.Errorf("P2: the other session prints %q", p)
	}
	if p := one.Print(); p != strings.Replace(want, "a=l;", "", 1) {
		t.Errorf("P2: the one session prints %q", p)
	}
	if p := third.Print(); p != "" {
		t.Errorf("P2: a later session prints %q", p)
	}
}

// Which way led to a program means nothing (P2).
func TestSameProgramSameAnswers(t *testing.T) {
	stmts := split(full())
	risen, fallen := alias.New(), alias.New()
	for i := range stmts {
		risen.Add(stmts[i])
		fallen.Add(stmts[len(stmts)-1-i])
	}
	detour := loaded(t, "l=@L;l=l;")
	detour.Load("a")
	detour.Drop("l=l;")
	for _, stmt := range stmts[1:] {
		detour.Add(stmt)
	}
	detour.Drop("l=@L;")
	detour.Add(stmts[0])
	direct := loaded(t, full())
	for i, s := range []*alias.Session{risen, fallen, detour} {
		if p, want := s.Print(), direct.Print(); p != want {
			t.Errorf("P2: way %d: Print() = %q, want %q", i, p, want)
		}
		if b, want := s.Batch(), direct.Batch(); b != want {
			t.Errorf("P2: way %d: Batch() = %q, want %q", i, b, want)
		}
	}
}

// The calls that only ask end at all strings and change nothing (P1).
func TestAskingChangesNothing(t *testing.T) {
	odd := []string{"", "a", "l", "m", "A", "0", "05", "50", "6", "ab", "a=b;", "\x00", "\xff", strings.Repeat("a", 201), strings.Repeat("0", 1<<20)}
	for _, text := range []string{"", "a=b;", full()} {
		s := loaded(t, text)
		want := strings.Join(split(text), "")
		for _, v := range odd {
			s.Refine(v)
			for _, w := range odd {
				s.Points(v, w)
				s.Why(v, w)
				s.Alias(v, w, "")
				s.Alias("a", v, w)
			}
			s.Batch()
			s.Print()
			if p := s.Print(); p != want {
				t.Fatalf("P1: behind asking with %.20q Print() = %q, want %q", v, p, want)
			}
		}
	}
}

// The errors' numbers, which callers may have written down.
func TestErrorNumbers(t *testing.T) {
	for i, e := range []alias.Errno{alias.OK, alias.ErrLong, alias.ErrForm, alias.ErrFull, alias.ErrNone, alias.ErrName, alias.ErrField} {
		if int(e) != i {
			t.Errorf("the constant number %d is %d", i, e)
		}
	}
}

package tests

import (
	"fmt"
	"regexp"
	"slices"
	"strconv"
	"strings"
	"sync"
	"testing"
	"unsafe"

	"loop.example/g00108/impl"
)

const (
	benchWord  = 60
	benchForm  = 61
	benchStore = 62
	benchLong  = 63
	mostBench  = 12000
	mostLines  = 100
	// A coin of none.
	noCoins = -1
)

// benchForms are the lines of each word whose rest has the right form, as the library's expressions.
var benchForms = sync.OnceValue(func() map[string]*regexp.Regexp {
	out := map[string]*regexp.Regexp{}
	for word, rest := range map[string]string{
		"new": " N", "put": " N (.*)", "drop": " N", "commit": " ?", "abort": " ?", "compact": " ?",
		"coins": " N", "show": " N", "window": " N N N N", "near": " N N N", "meet": " (.*)", "room": " ?",
	} {
		out[word] = regexp.MustCompile("^" + word + strings.ReplaceAll(rest, "N", "(0|-?[1-9][0-9]{0,8})") + "$")
	}
	return out
})

var shapeForm = sync.OnceValue(func() *regexp.Regexp { return newWantText().whole })

// wantBench is a bench by the tests' own reckoning.
type wantBench struct {
	store *impl.Store // nil where there is none
	coins int
	meet  wantMeet
}

func newWantBench() *wantBench { return &wantBench{coins: noCoins, meet: wantMeet{}} }

// benchLine is a line of a right form, split.
type benchLine struct {
	word string
	n    [4]int
	s    impl.Shape
}

// wantLine is a line split, and the code of what is wrong with it whatever the store is.
func wantLine(line string) (benchLine, int) {
	out := benchLine{word: strings.SplitN(line, " ", 2)[0]}
	form := benchForms()[out.word]
	if form == nil {
		return out, benchWord
	}
	parts := form.FindStringSubmatch(line)
	if parts == nil {
		return out, benchForm
	}
	parts = parts[1:]
	if out.word == "put" || out.word == "meet" {
		text := parts[len(parts)-1]
		if !shapeForm().MatchString(text) || !good(splitShape(text)) {
			return out, benchForm
		}
		out.s, parts = splitShape(text), parts[:len(parts)-1]
	}
	for i, part := range parts {
		out.n[i] = intOf(part)
	}
	return out, out.limits()
}

func (l benchLine) limits() int {
	right := true
	switch n := l.n; l.word {
	case "new":
		right = leastArea <= n[0] && n[0] <= mostArea
	case "coins":
		right = 0 <= n[0] && n[0] <= 255
	case "window":
		right = n[0] <= n[2] && n[1] <= n[3] && inWorld(pt(n[0], n[1])) && inWorld(pt(n[2], n[3]))
	}
	if !right {
		return benchForm
	}
	return 0
}

// answer is that to a line that is not empty.
func (w *wantBench) answer(line string) string {
	l, code := wantLine(line)
	said := ""
	switch {
	case code != 0:
	case w.store == nil && l.word != "new":
		code = benchStore
	default:
		said, code = w.obeyed(l)
	}
	if code != 0 {
		return fmt.Sprintf("error %d\n", code)
	}
	return said + "\n"
}

func (w *wantBench) obeyed(l benchLine) (string, int) {
	code := 0
	switch l.word {
	case "new":
		s, _ := wantStore(impl.DiskNew(2*l.n[0] + 2))
		w.store, w.coins = &s, noCoins
	case "put":
		*w.store, code = wantDrafted(*w.store, put(l.n[0], l.s))
	case "drop":
		*w.store, code = wantDrafted(*w.store, drop(l.n[0]))
	case "abort":
		*w.store = wantAbort(*w.store)
	case "commit", "compact":
		return w.settled(l.word)
	case "coins":
		w.coins = l.n[0]
		return "armed", 0
	case "room":
		return fmt.Sprint("room ", wantRoom(w.store.Log)), 0
	default:
		return w.asked(l, wantVisible(*w.store)), 0
	}
	return "ok", code
}

func (w *wantBench) asked(l benchLine, m []impl.Entry) string {
	var ids []int
	switch l.word {
	case "show":
		s, there := wantFind(m, l.n[0])
		if !there {
			return "none"
		}
		return wantShapeText(s)
	case "window":
		ids = wantWindow(m, box(l.n[0], l.n[1], l.n[2], l.n[3]))
	case "near":
		ids = ofRanked(wantRanked(m, pt(l.n[0], l.n[1])), l.n[2])
	case "meet":
		ids = w.meet.meeting(m, l.s)
	}
	return strings.TrimSpace("ids " + strings.Trim(fmt.Sprint(ids), "[]"))
}

// settled is a commit or a compact, with or without coins.
func (w *wantBench) settled(word string) (string, int) {
	s := *w.store
	var code int
	var steps [][]impl.Write
	if word == "commit" {
		*w.store, code = wantCommit(s)
		if len(s.Draft) > 0 {
			steps = append(steps, wantWrites(s.Log, wantPutChanges(s.Draft)))
		}
	} else {
		*w.store, code = wantCompact(s)
		steps, _, _ = wantSteps(s)
	}
	if code == 0 && w.coins != noCoins && len(steps) > 0 {
		ahead, cut := steps[:len(steps)-1], steps[len(steps)-1]
		d := wantDone(s.Disk, slices.Concat(ahead...))
		d.Queue = cut
		*w.store, _ = wantStore(wantSettled(d, func(i int) bool { return i > 7 || w.coins>>i&1 == 1 }))
		w.coins = noCoins
		return fmt.Sprint("crashed ", len(w.store.Map)), 0
	}
	if word == "commit" {
		return fmt.Sprint("entries ", len(w.store.Map)), code
	}
	return "ok", code
}

// benchStep is how a bench stands behind a line.
type benchStep struct {
	text  string // all lines up to this one, each as it ends
	said  string // what has been answered
	store bool
	m     []impl.Entry
}

// wantBenchSteps are those ahead of all lines and behind each of them.
func wantBenchSteps(text string) []benchStep {
	w := newWantBench()
	steps := []benchStep{{}}
	for line := range strings.Lines(text) {
		next := benchStep{text: steps[len(steps)-1].text + line, said: steps[len(steps)-1].said}
		if line = strings.TrimSuffix(line, "\n"); line != "" {
			next.said += w.answer(line)
		}
		if w.store != nil {
			next.store, next.m = true, w.store.Map
		}
		steps = append(steps, next)
	}
	return steps
}

func wantTooLong(text string) bool {
	lines := slices.Collect(strings.Lines(text))
	return len(text) > mostBench || len(lines) > mostLines
}

// checkTold: both calls of one text.
func checkTold(t *testing.T, text, said string, m []impl.Entry, store bool) {
	t.Helper()
	if got := impl.Bench(text); got != said {
		t.Fatalf("Bench of\n%s\n%s\nnot\n%s", shortLines(text), shortLines(got), shortLines(said))
	}
	got, ok := impl.Final(text)
	if ok != store || !sameEntries(got, m) {
		t.Fatalf("Final of\n%s\n%v %s, not %v %s", shortLines(text), ok, shortList(got), store, shortList(m))
	}
}

func shortLines(text string) string {
	var out []string
	for line := range strings.SplitSeq(text, "\n") {
		out = append(out, strings.Trim(strconv.Quote(short(line)), `"`))
	}
	return strings.Join(out, "\n")
}

// checkBench: what is answered to a text, and what its map is then.
func checkBench(t *testing.T, text string) string {
	t.Helper()
	if wantTooLong(text) {
		checkTold(t, text, "error 63\n", nil, false)
		return "error 63\n"
	}
	steps := wantBenchSteps(text)
	end := steps[len(steps)-1]
	checkTold(t, text, end.said, end.m, end.store)
	return end.said
}

// checkEachLine: the answers to a text begin with the answers to its first lines, cut behind each of them, with and without the last byte 10.
func checkEachLine(t *testing.T, text string) {
	t.Helper()
	whole := impl.Bench(text)
	for _, step := range wantBenchSteps(text) {
		checkTold(t, step.text, step.said, step.m, step.store)
		checkTold(t, strings.TrimSuffix(step.text, "\n"), step.said, step.m, step.store)
		if !strings.HasPrefix(whole, step.said) {
			t.Fatalf("the answers to\n%s\nbegin otherwise than\n%s", shortLines(text), shortLines(step.said))
		}
	}
}

// script is lines, each with its answer; an empty line has none.
type script []string

func (s script) text() string {
	out := ""
	for pair := range slices.Chunk(s, 2) {
		out += pair[0] + "\n"
	}
	return out
}

func (s script) said() string {
	out := ""
	for pair := range slices.Chunk(s, 2) {
		if pair[1] != "" {
			out += pair[1] + "\n"
		}
	}
	return out
}

// checkWhole: the lines are answered as it is written here, by the program and by the tests' reckoning, and Final has these Entries.
func (s script) checkWhole(t *testing.T, what string, m ...impl.Entry) {
	t.Helper()
	if got := impl.Bench(s.text()); got != s.said() {
		t.Errorf("%s:\n%s\n%s\nnot\n%s", what, shortLines(s.text()), shortLines(got), shortLines(s.said()))
	}
	if got, ok := impl.Final(s.text()); !ok || !sameEntries(got, m) {
		t.Errorf("%s: Final %v %s, not %s", what, ok, shortList(got), shortList(m))
	}
	checkBench(t, s.text())
}

// check: likewise, and behind each line.
func (s script) check(t *testing.T, what string, m ...impl.Entry) {
	t.Helper()
	s.checkWhole(t, what, m...)
	checkEachLine(t, s.text())
}

// and is one script behind the other.
func (s script) and(more ...string) script { return slices.Concat(s, more) }

// putText is the line that puts a shape.
func putText(id int, s impl.Shape) string { return fmt.Sprint("put ", id, " ", wantShapeText(s)) }

// draftScript puts, and drops, what changes tell.
func draftScript(list []impl.Change) script {
	var out script
	for _, c := range list {
		if c.Kind == impl.ChangePut {
			out = out.and(putText(c.Id, c.Shape), "ok")
		} else {
			out = out.and(fmt.Sprint("drop ", c.Id), "ok")
		}
	}
	return out
}

func TestBenchConstants(t *testing.T) {
	if impl.BenchWord != benchWord || impl.BenchForm != benchForm || impl.BenchStore != benchStore || impl.BenchLong != benchLong || impl.MaxBench != mostBench || impl.MaxLines != mostLines {
		t.Error("constants:", impl.BenchWord, impl.BenchForm, impl.BenchStore, impl.BenchLong, impl.MaxBench, impl.MaxLines)
	}
}

func TestEachCommandByExample(t *testing.T) {
	square := area(square(0, 0, 10))
	script{
		"new 9", "ok",
		"room", "room 9",
		"put 7 AREA ((0 0, 10 0, 10 10, 0 10))", "ok",
		"put 3 POINT (-5 5)", "ok",
		"put 1000000 LINE (20 20, 30 20)", "ok",
		"room", "room 9",
		"commit", "entries 3",
		"room", "room 4", // 1, 7 + 93, 7 + 21 and 7 + 41 bytes: one too many for four pieces
		"show 7", "AREA ((0 0, 10 0, 10 10, 0 10))",
		"show 3", "POINT (-5 5)",
		"show 4", "none",
		"drop 3", "ok",
		"show 3", "none",
		"drop 3", "error 33",
		"put 3 POINTS (1 1, 40 1)", "ok",
		"show 3", "POINTS (1 1, 40 1)",
		"window 0 0 1 1", "ids 3 7",
		"window 30 20 30 20", "ids 1000000",
		"window 31 2 39 19", "ids",
		"near 40 0 1", "ids 3",
		"near 40 0 2", "ids 3 1000000",
		"near 40 0 9", "ids 3 1000000 7",
		"meet LINES ((40 0, 40 9), (25 0, 25 20))", "ids 3 1000000",
		"meet POINT (11 11)", "ids",
		"abort", "ok",
		"show 3", "POINT (-5 5)",
		"abort", "ok",
		"commit", "entries 3",
		"drop 1000000", "ok",
		"commit", "entries 2",
		"room", "room 3",
		"drop 7", "ok",
		"compact", "ok",
		"room", "room 6", // 1, 28 and 100 bytes
		"show 7", "none",
		"commit", "entries 1",
		"room", "room 5",
	}.check(t, "all commands", entry(3, point(-5, 5)))
	script{"new 4", "ok", "put 1 AREA ((0 0, 10 0, 10 10, 0 10))", "ok", "commit", "entries 1"}.check(t, "an area", entry(1, square))
	script{"new 4", "ok"}.check(t, "a new store")
	script{"new 4", "ok", "commit", "entries 0", "compact", "ok", "abort", "ok", "window 0 0 0 0", "ids", "near 0 0 1", "ids", "meet POINT (0 0)", "ids", "show 1", "none", "room", "room 3"}.check(t, "nothing in it")
}

func TestPutsAndDropsOfTheBench(t *testing.T) {
	script{
		"new 20", "ok",
		"put 0 POINT (1 1)", "error 33",
		"put -1 POINT (1 1)", "error 33",
		"put 1000001 POINT (1 1)", "error 33",
		"put 999999999 POINT (1 1)", "error 33",
		"put -999999999 POINT (1 1)", "error 33",
		"drop 0", "error 33",
		"drop -1", "error 33",
		"drop 1", "error 33",
		"drop 1000001", "error 33",
		"commit", "entries 0",
		"put 1 POINT (1 1)", "ok",
		"put 1000000 POINT (2 2)", "ok",
		"put 1 POINT (3 3)", "ok",
		"drop 1000000", "ok",
		"drop 1000000", "error 33",
		"show 1", "POINT (3 3)",
		"show 1000000", "none",
		"show 0", "none",
		"show -1", "none",
		"show 999999999", "none",
		"commit", "entries 1",
		"put 1 LINE (0 0, 1 1)", "ok",
		"commit", "entries 1",
		"drop 1", "ok",
		"put 1 LINE (0 0, 1 1)", "ok",
		"drop 1", "ok",
		"commit", "entries 0",
	}.check(t, "Ids")
	for _, one := range shapesOfEachKind() {
		text := wantShapeText(one)
		script{
			"new 30", "ok", "put 5 " + text, "ok", "show 5", text, "meet " + text, "ids 5", "commit", "entries 1", "show 5", text, "compact", "ok", "show 5", text,
		}.check(t, text, entry(5, one))
	}
}

func TestTextsOfNoShapeOnTheBench(t *testing.T) {
	for _, text := range []string{
		"", " ", "POINT", "POINT ", "POINT (1 1", "POINT (1 1))", "POINT (1 1) ", " POINT (1 1)", "POINT  (1 1)", "POINT (1  1)", "POINT (1 1)\r", "point (1 1)", "POINT (01 1)", "POINT (-0 1)", "POINT (+1 1)", "POINT (1 1, 2 2)", "POINT (10000001 0)", "POINT (1234567890 0)",
		"LINE (1 1)", "LINE (1 1, 1 1)", "LINES (1 1, 2 2)", "LINES ()", "AREA ((0 0, 1 0))", "AREA ((0 0, 0 1, 1 0))", "AREA ((0 0, 4 4, 4 0, 0 4))", "AREA ((0 0, 9 0, 0 9), (20 20, 20 21, 21 20))", "1 POINT (1 1)", "7", "-1",
	} {
		s := script{"new 9", "ok", "put 1 POINT (1 1)", "ok", "put 2 " + text, "error 61", "meet " + text, "error 61", "put 1 " + text, "error 61", "show 1", "POINT (1 1)", "show 2", "none", "put 2", "error 61", "commit", "entries 1"}
		s.check(t, text, entry(1, point(1, 1)))
	}
	for what, one := range wrongShapes() {
		if text := wantShapeText(one); !strings.Contains(text, "NONE") && len(text) < 1000 {
			script{"new 9", "ok", "put 2 " + text, "error 61", "meet " + text, "error 61", "commit", "entries 0"}.check(t, what)
		}
	}
	// A text of as many bytes as a line may have.
	great := frameAnd(impl.MaxRings-1, impl.MaxRing)
	for _, one := range []impl.Shape{longLine(impl.MaxRing), great} {
		text := wantShapeText(one)
		script{"new 199", "ok", "put 2 " + text, "ok", "show 2", text, "meet POINT (-200 -200)", "ids"}.check(t, "a great shape")
	}
}

// What is asked sees the Draft; Final does not.
func TestTheDraftOfTheBench(t *testing.T) {
	asked := func(show1, show2, ids, near string) []string {
		return []string{"show 1", show1, "show 2", show2, "window 0 0 9 9", ids, "near 0 0 5", near, "meet LINE (0 0, 9 9)", ids}
	}
	first := script{"new 30", "ok", "put 1 POINT (1 1)", "ok"}
	first = first.and(asked("POINT (1 1)", "none", "ids 1", "ids 1")...)
	first.check(t, "a Draft alone")
	first.and("abort", "ok").and(asked("none", "none", "ids", "ids")...).check(t, "aborted")
	both := first.and("commit", "entries 1", "put 2 POINT (3 3)", "ok")
	both = both.and(asked("POINT (1 1)", "POINT (3 3)", "ids 1 2", "ids 1 2")...)
	both.check(t, "a map and a Draft", entry(1, point(1, 1)))
	both.and("abort", "ok").and(asked("POINT (1 1)", "none", "ids 1", "ids 1")...).check(t, "a map and an aborted Draft", entry(1, point(1, 1)))
	gone := both.and("drop 1", "ok").and(asked("none", "POINT (3 3)", "ids 2", "ids 2")...)
	gone.check(t, "a Draft that drops", entry(1, point(1, 1)))
	gone.and("commit", "entries 1").and(asked("none", "POINT (3 3)", "ids 2", "ids 2")...).check(t, "dropped", entry(2, point(3, 3)))
	gone.and("compact", "ok").and(asked("none", "POINT (3 3)", "ids 2", "ids 2")...).and("abort", "ok").and(asked("POINT (1 1)", "none", "ids 1", "ids 1")...).check(t, "compacted, then aborted", entry(1, point(1, 1)))
	other := gone.and("put 2 POINT (-1 0)", "ok", "put 1 POINT (9 9)", "ok").and(asked("POINT (9 9)", "POINT (-1 0)", "ids 1", "ids 2 1")...)
	other.check(t, "a Draft that puts otherwise", entry(1, point(1, 1)))
}

func TestNewBehindNew(t *testing.T) {
	script{
		"new 9", "ok", "put 1 POINT (1 1)", "ok", "commit", "entries 1", "put 2 POINT (2 2)", "ok",
		"new 5", "ok", "room", "room 5", "show 1", "none", "show 2", "none", "window 0 0 9 9", "ids", "commit", "entries 0", "room", "room 5", "put 2 POINT (2 2)", "ok", "commit", "entries 1", "room", "room 4",
		"new 5", "ok", "room", "room 5", "commit", "entries 0",
	}.check(t, "a map and a Draft are gone")
	script{"new 9", "ok", "put 2 POINT (2 2)", "ok", "new 9", "ok"}.check(t, "nothing is left")
	script{"new 9", "ok", "coins 0", "armed", "new 9", "ok", "put 2 POINT (2 2)", "ok", "commit", "entries 1", "compact", "ok"}.check(t, "coins are gone", entry(2, point(2, 2)))
	script{
		"new 9", "ok", "put 1 POINT (1 1)", "ok", "commit", "entries 1", "put 2 POINT (2 2)", "ok", "coins 0", "armed",
		"new 3", "error 61", "new", "error 61", "new ", "error 61", "new 200", "error 61", "new 9 ", "error 61", "new 09", "error 61", "new -9", "error 61", "new 0", "error 61", "new 999999999", "error 61", "new 9 9", "error 61", "new x", "error 61",
		"show 1", "POINT (1 1)", "show 2", "POINT (2 2)", "commit", "crashed 1",
	}.check(t, "a refused one changes nothing", entry(1, point(1, 1)))
	for _, h := range []int{leastArea, 5, 100, 198, mostArea} {
		script{fmt.Sprint("new ", h), "ok", "room", fmt.Sprint("room ", h)}.check(t, "sectors")
	}
}

func TestLinesOfTexts(t *testing.T) {
	for text, want := range map[string]string{
		"":                        "",
		"\n":                      "",
		"\n\n\n":                  "",
		"new 4":                   "ok\n",
		"new 4\n":                 "ok\n",
		"new 4\n\n":               "ok\n",
		"\nnew 4":                 "ok\n",
		"\n\nnew 4\n\n\nroom\n\n": "ok\nroom 4\n",
		"new 4\nroom":             "ok\nroom 4\n",
		"new 4\r":                 "error 61\n",
		"new 4\r\n":               "error 61\n",
		"new 4\nroom\r\nroom\n":   "ok\nerror 60\nroom 4\n",
		"new 4\nroom \r\n":        "ok\nerror 61\n",
		"\r":                      "error 60\n",
		"\r\n":                    "error 60\n",
		"\r\nnew 4\r\nroom":       "error 60\nerror 61\nerror 62\n",
		"new 4\rroom":             "error 61\n",
		" new 4":                  "error 60\n",
		"new 4 ":                  "error 61\n",
		"new  4":                  "error 61\n",
		"new\t4":                  "error 60\n",
		"new 4\t":                 "error 61\n",
		"new 4\v":                 "error 61\n",
		"new 4\x00":               "error 61\n",
		"new 4\x00\nroom":         "error 61\nerror 62\n",
		"new 4\u2028room":         "error 61\n",
		"new 4\u0085room":         "error 61\n",
		"new\u00a04":              "error 60\n",
		" ":                       "error 60\n",
		"  ":                      "error 60\n",
		"new 4\n \nroom":          "ok\nerror 60\nroom 4\n",
		"new 4\n\x00\nroom":       "ok\nerror 60\nroom 4\n",
		"new 4\nroom \nroom":      "ok\nroom 4\nroom 4\n",
		"new 4\nroom  \nroom":     "ok\nerror 61\nroom 4\n",
		"new 4\n room\nroom":      "ok\nerror 60\nroom 4\n",
		"\xff":                    "error 60\n",
		"new \xff":                "error 61\n",
		"new 4\xff\nroom":         "error 61\nerror 62\n",
		"error 60\nok\nids":       "error 60\nerror 60\nerror 60\n",
	} {
		if got := impl.Bench(text); got != want {
			t.Errorf("Bench of %q: %q, not %q", text, got, want)
		}
		checkEachLine(t, text)
	}
}

// armedBench has a map of Id 1, a Draft of Id 2, and coins.
func armedBench() script {
	return script{"new 9", "ok", "put 1 POINT (1 1)", "ok", "commit", "entries 1", "put 2 POINT (2 2)", "ok", "coins 0", "armed"}
}

// stillArmed: all that armedBench has is there.
func (s script) stillArmed() script {
	return s.and("show 1", "POINT (1 1)", "show 2", "POINT (2 2)", "room", "room 8", "commit", "crashed 1", "show 2", "none", "room", "room 8")
}

func TestWordsThatAreNoCommands(t *testing.T) {
	for _, word := range []string{
		"fly", "New", "NEW", "ne", "neww", "new4", "new,", "n", "puts", "pu", "PUT", "Commit", "commits", "commit\x00", "commit\r", "\tcommit", "comit", "aborted", "Abort", "compactt", "compac", "coin", "coins0", "shows", "sho", "windows", "window0", "nears", "nea", "meets", "mee", "rooms", "roo", "error", "ok", "none", "ids", "armed", "entries", "crashed", "0", "-", "POINT", "final", "open", "sync", "help", "é", "\xff\xfe", "putput", "drop\t1", "ｒoom", "",
	} {
		for _, rest := range []string{"", " ", " 4", " 1 POINT (1 1)", " 0 0 9 9", "  "} {
			if line := word + rest; line != "" {
				armedBench().and(line, "error 60").stillArmed().check(t, line, entry(1, point(1, 1)))
				script{line, "error 60", "new 9", "ok", line, "error 60"}.check(t, line)
			}
		}
	}
}

func TestRestsWhereNothingIsTold(t *testing.T) {
	for word, said := range map[string]string{"commit": "crashed 1", "abort": "ok", "compact": "crashed 1", "room": "room 8"} {
		for _, rest := range []string{"  ", " 0", " 1", " now", " \r", " \t", " -", " commit", "  1", " \x00", " POINT (1 1)", " 1 "} {
			armedBench().and(word+rest, "error 61").stillArmed().check(t, word+rest, entry(1, point(1, 1)))
			script{word + rest, "error 61", word, "error 62", word + " ", "error 62", "new 9", "ok"}.check(t, word+rest)
		}
		// Behind the blank nothing stands: the rest is empty, as it must be.
		alone, blank := armedBench().and(word, said), armedBench().and(word+" ", said)
		if a, b := impl.Bench(alone.text()), impl.Bench(blank.text()); a != b || a != alone.said() {
			t.Errorf("%q and %q: %q, %q", word, word+" ", a, b)
		}
		blank.check(t, word+" ", entry(1, point(1, 1)))
	}
}

// restWords are told something; each with a rest that is as told, and what it answers on an armed bench.
func restWords() map[string][2]string {
	return map[string][2]string{
		"new":    {"4", "ok"},
		"put":    {"3 LINE (0 0, 1 1)", "ok"},
		"drop":   {"1", "ok"},
		"coins":  {"0", "armed"},
		"show":   {"1", "POINT (1 1)"},
		"window": {"0 0 1 1", "ids 1"},
		"near":   {"0 0 5", "ids 1 2"},
		"meet":   {"POINT (2 2)", "ids 2"},
	}
}

func TestRestsWhereSomethingIsTold(t *testing.T) {
	for word, one := range restWords() {
		rest, said := one[0], one[1]
		parts := strings.Split(rest, " ")
		wrong := map[string]bool{
			"": true, " ": true, "  ": true, " " + rest: true, rest + " ": true, rest + " 0": true, rest + " x": true, rest + "\r": true, rest + "\t": true, "x": true, "x " + rest: true,
			strings.Join(parts[1:], " "): true, strings.Join(parts[:len(parts)-1], " "): true, strings.Replace(rest, " ", "  ", 1): true, strings.Replace(rest, " ", "\t", 1): true, strings.Replace(rest, " ", "", 1): true, strings.Replace(rest, " ", ",", 1): true,
		}
		delete(wrong, rest)
		for bad := range wrong {
			line := word + " " + bad
			armedBench().and(line, "error 61").stillArmed().check(t, line, entry(1, point(1, 1)))
			script{line, "error 61", "new 9", "ok"}.check(t, line)
		}
		armedBench().and(word, "error 61").stillArmed().check(t, word, entry(1, point(1, 1)))
		right := armedBench().and(word+" "+rest, said)
		if got := impl.Bench(right.text()); got != right.said() {
			t.Errorf("%s %s: %q", word, rest, got)
		}
		checkEachLine(t, right.text())
	}
}

// numberPlaces are lines with a number at each place where one is told, as %s.
func numberPlaces() []string {
	return []string{
		"new %s", "put %s POINT (1 1)", "drop %s", "coins %s", "show %s",
		"window %s -5 9 9", "window -5 %s 9 9", "window -5 -5 %s 9", "window -5 -5 9 %s",
		"near %s 0 1", "near 0 %s 1", "near 0 0 %s",
	}
}

func TestNumbersOfTheBench(t *testing.T) {
	wrong := []string{
		"-0", "00", "01", "-01", "007", "+1", "+0", "-", "--1", "1-", "1-1", "- 1", "1234567890", "-1234567890", "1000000000", "-1000000000", "0000000001", "000000000", "0123456789", "-000000001",
		"", "1.0", "1.", ".1", "1e3", "0x1", "0b1", "0o7", "1_0", "1,0", "1,", "a", "1a", "a1", "１", "٣", "9223372036854775807", "9223372036854775808", "-9223372036854775808", "-9223372036854775809", "18446744073709551617", "99999999999999999999999999", "1\r", "1\t", "\t1", "1\x00", "(1", "NaN", "Inf", "−1", "1 1", " 1", "1 ",
	}
	right := []string{"0", "1", "-1", "9", "10", "-10", "4", "255", "999999999", "-999999999", "100000000", "-100000000", "123456789", "10000000", "-10000000"}
	for _, place := range numberPlaces() {
		for _, n := range wrong {
			line := fmt.Sprintf(place, n)
			armedBench().and(line, "error 61").stillArmed().check(t, line, entry(1, point(1, 1)))
		}
		for _, n := range right {
			checkEachLine(t, armedBench().text()+fmt.Sprintf(place, n)+"\nshow 1\nshow 2\ncommit\n")
		}
	}
	// Of nine digits the form is right, whatever it means.
	armedBench().and(
		"show 999999999", "none", "show -999999999", "none", "drop 999999999", "error 33", "drop -999999999", "error 33", "put 100000000 POINT (1 1)", "error 33", "near 999999999 0 1", "ids", "near 0 -999999999 1", "ids", "near 0 0 999999999", "ids 1 2", "near 0 0 -999999999", "ids",
		"new 999999999", "error 61", "coins 999999999", "error 61", "coins -999999999", "error 61", "window -999999999 0 1 1", "error 61", "window 0 0 999999999 1", "error 61",
	).stillArmed().check(t, "nine digits", entry(1, point(1, 1)))
}

func TestWindowsOfTheBench(t *testing.T) {
	s := script{"new 20", "ok", "put 1 POINT (0 0)", "ok", "put 2 LINE (10000000 -10000000, -10000000 10000000)", "ok", "put 3 POINT (10000000 10000000)", "ok"}
	s.and(
		"window 0 0 0 0", "ids 1 2",
		"window -10000000 -10000000 10000000 10000000", "ids 1 2 3",
		"window 10000000 10000000 10000000 10000000", "ids 3",
		"window 1 1 10000000 10000000", "ids 3",
		"window 1 1 0 1", "error 61",
		"window 1 1 1 0", "error 61",
		"window 0 0 -1 -1", "error 61",
		"window 9 9 0 0", "error 61",
		"window 0 9 9 0", "error 61",
		"window 9 0 0 9", "error 61",
		"window -10000001 0 0 0", "error 61",
		"window 0 -10000001 0 0", "error 61",
		"window 0 0 10000001 0", "error 61",
		"window 0 0 0 10000001", "error 61",
		"window 0 0 0", "error 61",
		"window 0 0 0 0 0", "error 61",
		"window -3 2 -2 3", "ids 2",
		"window 1 -3 2 -2", "ids 2",
	).check(t, "windows")
}

func TestNearOfTheBench(t *testing.T) {
	s := script{"new 20", "ok", "put 5 POINT (0 0)", "ok", "put 2 POINT (10 0)", "ok", "put 9 LINE (3 1, 3 9)", "ok"}
	s.and(
		"near 0 0 1", "ids 5",
		"near 0 0 2", "ids 5 9",
		"near 0 0 3", "ids 5 9 2",
		"near 0 0 4", "ids 5 9 2",
		"near 5 0 3", "ids 9 2 5",
		"near 0 0 0", "ids",
		"near 0 0 -1", "ids",
		"near 10000000 10000000 1", "ids 9",
		"near -10000000 -10000000 2", "ids 5 9",
		"near 10000001 0 3", "ids",
		"near -10000001 0 3", "ids",
		"near 0 10000001 3", "ids",
		"near 0 -10000001 3", "ids",
		"near 3 1 1", "ids 9",
		"near 0 0", "error 61",
		"near 0 0 1 1", "error 61",
		"near 0", "error 61",
	).check(t, "near")
}

func TestTheOrderOfErrors(t *testing.T) {
	// Without a store: the word, then the form, then the store.
	script{
		"fly", "error 60", "fly 1 2", "error 60", "fly  ", "error 60",
		"put", "error 61", "put x", "error 61", "put 0 POINT (1 1", "error 61", "put 1 LINE (1 1)", "error 61", "put 0 POINT (1 1)", "error 62", "put 1 POINT (1 1)", "error 62",
		"drop", "error 61", "drop -0", "error 61", "drop 0", "error 62", "drop 1", "error 62",
		"commit 1", "error 61", "commit", "error 62", "abort now", "error 61", "abort", "error 62", "compact  ", "error 61", "compact", "error 62",
		"coins", "error 61", "coins 256", "error 61", "coins -1", "error 61", "coins 0", "error 62", "coins 255", "error 62",
		"show", "error 61", "show x", "error 61", "show 1", "error 62", "show -1", "error 62",
		"window 0 0 0", "error 61", "window 1 1 0 0", "error 61", "window 0 0 10000001 0", "error 61", "window 0 0 1 1", "error 62",
		"near 0 0", "error 61", "near 0 0 0", "error 62", "near 10000001 0 1", "error 62",
		"meet", "error 61", "meet POINT (1 1", "error 61", "meet LINE (1 1)", "error 61", "meet POINT (1 1)", "error 62",
		"room 1", "error 61", "room", "error 62",
		"new 3", "error 61", "new 200", "error 61", "new", "error 61",
		"new 4", "ok", "room", "room 4",
	}.check(t, "without a store")
	// With one: the word, then the form, then the store's codes.
	full := script{"new 199", "ok", "put 7 POINT (0 0)", "ok", "commit", "entries 1"}.and(draftScript(dotPuts(1, mostChanges))...)
	full.and(
		"puts 0 POINT (1 1)", "error 60", "drops 0", "error 60",
		"put 0 POINT (1 1", "error 61", "put 41 POINT (1 1", "error 61", "put 41 LINE (1 1)", "error 61", "put x POINT (1 1)", "error 61", "drop x", "error 61", "drop 1 ", "error 61",
		"put 0 POINT (1 1)", "error 33", "put 1000001 POINT (1 1)", "error 33", "drop 0", "error 33", "drop 41", "error 33",
		"put 41 POINT (1 1)", "error 32", "put 1 POINT (1 1)", "error 32", "drop 7", "error 32", "drop 1", "error 32",
		"commit", "entries 40",
		"put 41 POINT (1 1)", "ok",
	).check(t, "with a full Draft", wantMapOf(dotPuts(1, mostChanges))...)
}

// errorsWithNoChange are lines that are refused wherever they stand behind a new store of few Ids.
func errorsWithNoChange() script {
	return script{
		"fly", "error 60", " ", "error 60", "commit\r", "error 60", "New 5", "error 60",
		"new 3", "error 61", "new", "error 61", "commit x", "error 61", "abort  ", "error 61", "compact 1", "error 61", "coins 256", "error 61", "coins -1", "error 61", "coins", "error 61", "put 1 POINT (7 7", "error 61", "put 1", "error 61", "drop", "error 61", "drop 1 1", "error 61", "show x", "error 61", "window 1 1 0 0", "error 61", "near 1 1", "error 61", "meet POINT", "error 61", "room 0", "error 61",
		"put 0 POINT (7 7)", "error 33", "drop 77", "error 33", "drop -1", "error 33",
	}
}

// An error changes nothing: all that is answered behind it, and the map, are as they were without.
func TestErrorsChangeNothing(t *testing.T) {
	t.Parallel()
	s := script{
		"new 12", "ok", "put 1 POINT (1 1)", "ok", "put 2 POINT (2 2)", "ok", "commit", "entries 2", "coins 0", "armed", "drop 1", "ok", "commit", "crashed 2", "commit", "entries 2", "put 3 POINT (3 3)", "ok", "compact", "ok", "show 3", "POINT (3 3)", "coins 1", "armed", "commit", "crashed 3", "drop 2", "ok", "abort", "ok", "room", "room 9", "drop 3", "ok", "commit", "entries 2",
	}
	m := []impl.Entry{entry(1, point(1, 1)), entry(2, point(2, 2))}
	s.check(t, "without an error", m...)
	for bad := range slices.Chunk(errorsWithNoChange(), 2) {
		for at := 2; at <= len(s); at += 2 {
			with := slices.Insert(slices.Clone(s), at, bad...)
			checkTold(t, with.text(), with.said(), m, true)
		}
		all := slices.Clone(s[:2])
		for pair := range slices.Chunk(s[2:], 2) {
			all = all.and(bad...).and(pair...)
		}
		all.check(t, "an error ahead of each line: "+bad[0], m...)
	}
	for bad := range slices.Chunk(errorsWithNoChange(), 2) {
		if bad[1] == "error 33" {
			bad[1] = "error 62"
		}
		script{bad[0], bad[1], "new 9", "ok", "commit", "entries 0", "room", "room 9"}.check(t, "an error without a store: "+bad[0])
	}
}

// allKept: whether coins of the bench keep all of so many writes.
func allKept(coins, count int) bool {
	for i := range min(count, 8) {
		if coins>>i&1 == 0 {
			return false
		}
	}
	return true
}

// A commit that is cut off leaves the map ahead of it or behind it, whole: that behind it just if none of its first eight writes is lost.
func TestEachOfTheCoinsAtACommit(t *testing.T) {
	t.Parallel()
	for _, count := range []int{1, 2, 7, 8, 9, 17} {
		draft := ofPieces(count)
		if pieces(len(wantPutChanges(draft))) != count {
			t.Fatal("the test itself is wrong:", count)
		}
		ahead := dotPuts(1, 2)
		base := script{"new 60", "ok"}.and(draftScript(ahead)...).and("commit", "entries 2").and(draftScript(draft)...)
		for coins := range 256 {
			list, left := ahead, 58
			if allKept(coins, count) {
				list, left = slices.Concat(ahead, draft), 58-count
			}
			entries := fmt.Sprint(len(list))
			s := base.and(fmt.Sprint("coins ", coins), "armed", "commit", "crashed "+entries)
			checkTold(t, s.text(), s.said(), wantMapOf(list), true)
			// The coins and the Draft are gone; what is committed then is there.
			s = s.and("room", fmt.Sprint("room ", left), "commit", "entries "+entries, "put 999 POINT (5 5)", "ok", "commit", fmt.Sprint("entries ", len(list)+1), "room", fmt.Sprint("room ", left-1), "compact", "ok")
			checkTold(t, s.text(), s.said(), wantMapOf(slices.Concat(list, []impl.Change{put(999, point(5, 5))})), true)
			if coins%51 == 0 {
				checkEachLine(t, s.text())
			}
		}
	}
}

// A compact that is cut off leaves the map that there was, in the other area just if its head is kept, whatever the other coins are.
func TestEachOfTheCoinsAtACompact(t *testing.T) {
	t.Parallel()
	few, many := dotPuts(1, 5), dotPuts(1, 40)
	for _, c := range []struct {
		base           script
		list           []impl.Change
		stays, crosses int
	}{
		// 1 and 5 times 28 bytes are four pieces; the puts behind have one each.
		{script{"new 30", "ok"}.and(draftScript(few)...).and("commit", "entries 5"), few, 24, 26},
		// Two rows: 1 and 40 times 28 bytes are 26 pieces, and one.
		{script{"new 50", "ok"}.and(draftScript(many)...).and("commit", "entries 40", "put 41 POINT (41 40)", "ok", "commit", "entries 41"), dotPuts(1, 41), 21, 23},
		{script{"new 9", "ok"}, nil, 7, 8},
	} {
		base := c.base
		for range 2 {
			if len(c.list) > 0 {
				base = base.and("put 1 POINT (1 0)", "ok", "commit", fmt.Sprint("entries ", len(c.list)))
			} else {
				base = base.and("put 1 POINT (1 0)", "ok", "drop 1", "ok", "commit", "entries 0")
			}
		}
		entries := fmt.Sprint(len(c.list))
		base = base.and("put 77 POINT (7 7)", "ok", "show 77", "POINT (7 7)")
		for coins := range 256 {
			left := c.stays
			if coins&1 == 1 {
				left = c.crosses
			}
			s := base.and(fmt.Sprint("coins ", coins), "armed", "compact", "crashed "+entries)
			checkTold(t, s.text(), s.said(), wantMapOf(c.list), true)
			// The coins are gone, and so is the Draft, which no disk has.
			s = s.and("show 77", "none", "room", fmt.Sprint("room ", left), "commit", "entries "+entries, "put 78 POINT (8 8)", "ok", "compact", "ok", "room", fmt.Sprint("room ", c.crosses), "commit", fmt.Sprint("entries ", len(c.list)+1))
			checkTold(t, s.text(), s.said(), wantMapOf(slices.Concat(c.list, []impl.Change{put(78, point(8, 8))})), true)
			if coins < 4 || coins > 252 {
				checkBench(t, s.text())
			}
		}
		checkEachLine(t, base.and("coins 1", "armed", "compact", "crashed "+entries, "room", "").text())
		// Without coins the Draft is kept.
		base.and("compact", "ok", "show 77", "POINT (7 7)", "room", fmt.Sprint("room ", c.crosses)).check(t, "no coins", wantMapOf(c.list)...)
	}
}

func TestWhichCoinsThereAre(t *testing.T) {
	one := script{"new 9", "ok", "put 1 POINT (1 1)", "ok"}
	for _, coins := range []string{"256", "-1", "257", "999999999", "-255", "-256", "0255", "1000", "25 5", "0x1", ""} {
		one.and("coins "+coins, "error 61", "commit", "entries 1").check(t, "refused: "+coins, entry(1, point(1, 1)))
		one.and("coins 0", "armed", "coins "+coins, "error 61", "commit", "crashed 0").check(t, "refused, and armed: "+coins)
		one.and("coins 255", "armed", "coins "+coins, "error 61", "commit", "crashed 1").check(t, "refused, and armed with all: "+coins, entry(1, point(1, 1)))
	}
	one.and("coins 0", "armed", "commit", "crashed 0", "room", "room 9", "commit", "entries 0").check(t, "none kept")
	one.and("coins 255", "armed", "commit", "crashed 1", "room", "room 8", "commit", "entries 1").check(t, "all kept", entry(1, point(1, 1)))
	one.and("coins 1", "armed", "commit", "crashed 1", "room", "room 8").check(t, "the first one kept", entry(1, point(1, 1)))
	one.and("coins 254", "armed", "commit", "crashed 0", "room", "room 9").check(t, "all but the first kept")
	one.and("coins 0", "armed", "coins 255", "armed", "commit", "crashed 1").check(t, "armed twice", entry(1, point(1, 1)))
	one.and("coins 255", "armed", "coins 0", "armed", "commit", "crashed 0").check(t, "armed twice, otherwise")
	one.and("coins 0", "armed", "coins 0", "armed", "commit", "crashed 0", "put 1 POINT (1 1)", "ok", "commit", "entries 1").check(t, "armed twice, spent once", entry(1, point(1, 1)))
	one.and("commit", "entries 1", "coins 0", "armed", "drop 1", "ok", "commit", "crashed 1", "show 1", "POINT (1 1)", "drop 1", "ok", "coins 1", "armed", "commit", "crashed 0").check(t, "armed anew")
}

func TestWhatKeepsTheCoins(t *testing.T) {
	// Seven points are 1 and 7 times 28 bytes, five pieces where there is room for four.
	full := script{"new 4", "ok", "coins 0", "armed", "commit", "entries 0", "commit", "entries 0"}.and(draftScript(dotPuts(1, 7))...)
	full = full.and("commit", "error 31", "show 1", "none", "room", "room 4", "commit", "entries 0")
	full.and("put 1 POINT (1 1)", "ok", "commit", "crashed 0", "room", "room 4", "put 1 POINT (1 1)", "ok", "commit", "entries 1", "room", "room 3").check(t, "empty, too great, cut", entry(1, point(1, 1)))
	full.and("put 1 POINT (1 1)", "ok", "compact", "crashed 0", "show 1", "none", "room", "room 4", "compact", "ok", "room", "room 3").check(t, "empty, too great, a compact cut")
	full.and("new 4", "ok", "put 1 POINT (1 1)", "ok", "commit", "entries 1").check(t, "empty, too great, a new store", entry(1, point(1, 1)))
	armedBench().and(
		"show 1", "POINT (1 1)", "show 7", "none", "window 0 0 9 9", "ids 1 2", "near 0 0 1", "ids 1", "meet POINT (2 2)", "ids 2", "room", "room 8", "put 3 POINT (3 3)", "ok", "drop 3", "ok", "drop 3", "error 33", "put 0 POINT (1 1)", "error 33", "fly", "error 60", "coins 256", "error 61", "new 3", "error 61", "abort", "ok", "commit", "entries 1", "put 2 POINT (2 2)", "ok", "", "",
	).stillArmed().check(t, "all others", entry(1, point(1, 1)))
}

// tightLines are how many points lines have, those of even places and those of odd ones being two records: in the order of all, in rows, they have two pieces more.
func tightLines() [][2]int {
	d := &dice{1701}
	// A line's change has so many bytes.
	size := func(points int) int { return 16 + 16*points }
	for {
		var out [][2]int
		records, rows := [2]int{1, 1}, []int{1}
		for records[0] < 3600 || records[1] < 3600 {
			pair := [2]int{2 + d.below(30), 2 + d.below(30)}
			out = append(out, pair)
			for i, points := range pair {
				records[i] += size(points)
				if rows[len(rows)-1]+size(points) > mostRecord {
					rows = append(rows, 1)
				}
				rows[len(rows)-1] += size(points)
			}
		}
		all := 0
		for _, row := range rows {
			all += pieces(row)
		}
		if max(records[0], records[1]) <= mostRecord && all <= mostArea && all == pieces(records[0])+pieces(records[1])+2 {
			return out
		}
	}
}

// tightBench has two records, and room for one piece; its map by itself needs a piece more than there are.
func tightBench(t *testing.T) (script, []impl.Entry) {
	t.Helper()
	var records [2][]impl.Change
	for i, pair := range tightLines() {
		for j, points := range pair {
			records[j] = append(records[j], put(1+2*i+j, longLine(points)))
		}
	}
	all := pieces(len(wantPutChanges(records[0]))) + pieces(len(wantPutChanges(records[1])))
	m := wantMapOf(slices.Concat(records[0], records[1]))
	if needed(impl.Store{Map: m}) != all+2 {
		t.Fatal("the test itself is wrong:", all)
	}
	out := script{fmt.Sprint("new ", all+1), "ok"}.and(draftScript(records[0])...).and("commit", fmt.Sprint("entries ", len(records[0])))
	return out.and(draftScript(records[1])...).and("commit", fmt.Sprint("entries ", len(m)), "room", "room 1"), m
}

// A compact that is refused changes nothing: the Draft is there, and the coins.
func TestCompactsThatAreRefused(t *testing.T) {
	t.Parallel()
	base, m := tightBench(t)
	text := wantShapeText(m[0].Shape)
	fewer := m[1:]
	base.and("compact", "error 31", "room", "room 1").checkWhole(t, "refused", m...)
	base = base.and("drop 1", "ok", "compact", "error 31", "show 1", "none", "compact", "error 31")
	base.and("abort", "ok", "show 1", text).checkWhole(t, "a Draft", m...)
	base.and("commit", fmt.Sprint("entries ", len(fewer)), "room", "room 0").checkWhole(t, "a Draft that is committed", fewer...)
	for coins, crashed := range map[int][]impl.Entry{0: m, 1: fewer, 254: m, 255: fewer} {
		s := base.and(fmt.Sprint("coins ", coins), "armed", "compact", "error 31", "show 1", "none", "room", "room 1", "commit", fmt.Sprint("crashed ", len(crashed)), "commit", fmt.Sprint("entries ", len(crashed)))
		s.checkWhole(t, "coins", crashed...)
	}
}

func TestCommitsThatAreRefused(t *testing.T) {
	long := wantShapeText(longLine(60))
	// Five times 976 bytes are more than a record has, whatever room there is.
	s := script{"new 199", "ok", "put 9 POINT (9 9)", "ok", "commit", "entries 1"}
	for i := range 4 {
		s = s.and(fmt.Sprint("put ", i+1, " ", long), "ok")
	}
	s.and("commit", "entries 5").check(t, "four", entry(1, longLine(60)), entry(2, longLine(60)), entry(3, longLine(60)), entry(4, longLine(60)), entry(9, point(9, 9)))
	s.and("put 5 "+long, "ok", "commit", "error 31", "show 1", "none", "show 9", "POINT (9 9)", "commit", "entries 1", "put 5 "+long, "ok", "commit", "entries 2").check(t, "five", entry(5, longLine(60)), entry(9, point(9, 9)))
	// Room for just the Draft, and for a piece less.
	for h := leastArea; h <= 8; h++ {
		for n := 1; n <= h+2; n++ {
			draft := ofPieces(n)
			s := script{fmt.Sprint("new ", h), "ok"}.and(draftScript(draft)...)
			if n > h {
				s.and("commit", "error 31", "room", fmt.Sprint("room ", h), "show 50", "none").check(t, "too little room")
			} else {
				s.and("commit", fmt.Sprint("entries ", len(draft)), "room", fmt.Sprint("room ", h-n)).check(t, "room", wantMapOf(draft)...)
			}
		}
	}
}

func TestDraftsOfTheBenchAtTheirLimit(t *testing.T) {
	t.Parallel()
	s := script{"new 199", "ok"}.and(draftScript(dotPuts(1, mostChanges))...)
	full := s.and("put 41 POINT (1 1)", "error 32", "drop 1", "error 32", "drop 41", "error 33", "put 0 POINT (1 1)", "error 33")
	full.and("commit", "entries 40", "drop 1", "ok", "put 41 POINT (1 1)", "ok").checkWhole(t, "committed", wantMapOf(dotPuts(1, mostChanges))...)
	full.and("abort", "ok", "put 41 POINT (1 1)", "ok", "commit", "entries 1").checkWhole(t, "aborted", entry(41, point(1, 1)))
	full.and("compact", "ok", "put 41 POINT (1 1)", "error 32", "show 40", "POINT (40 39)").checkWhole(t, "compacted")
	full.and("coins 1", "armed", "compact", "crashed 0", "put 41 POINT (1 1)", "ok", "show 40", "none").checkWhole(t, "cut")
	full.and("new 199", "ok", "put 41 POINT (1 1)", "ok", "show 40", "none").checkWhole(t, "new")
	// Changes of one Id count one by one.
	same := script{"new 199", "ok"}
	for i := range mostChanges {
		same = same.and(fmt.Sprint("put 3 POINT (", i, " 0)"), "ok")
	}
	same.and("put 3 POINT (1 1)", "error 32", "drop 3", "error 32", "commit", "entries 1").checkWhole(t, "one Id", entry(3, point(39, 0)))
}

func TestTextsOfAsManyBytesAsMayBe(t *testing.T) {
	dot := []impl.Entry{entry(1, point(1, 1))}
	begin := "new 4\nput 1 POINT (1 1)\ncommit\n"
	said := "ok\nok\nentries 1\n"
	// fill is so many bytes to the end of a text, all in one word.
	fill := func(ahead string, end string, size int) string {
		return ahead + strings.Repeat("x", size-len(ahead)-len(end)) + end
	}
	for _, end := range []string{"", "\n", "\n\n", "\nroom", "\nroom\n", " ", "\nabort \n"} {
		more := map[string]string{"\nroom": "room 3\n", "\nroom\n": "room 3\n", "\nabort \n": "ok\n"}[end]
		for _, size := range []int{mostBench - 2, mostBench - 1, mostBench} {
			checkTold(t, fill(begin, end, size), said+"error 60\n"+more, dot, true)
		}
		for _, size := range []int{mostBench + 1, mostBench + 2, 2 * mostBench, 1 << 20} {
			checkTold(t, fill(begin, end, size), "error 63\n", nil, false)
		}
	}
	// Bytes count, whatever they mean.
	for _, one := range []string{"é", "\x00", "\xff", " ", "\r", "\t", "日", "0"} {
		just := strings.Repeat(one, mostBench/len(one))
		checkTold(t, just, "error 60\n", nil, false)
		checkTold(t, just+"x", "error 63\n", nil, false)
		checkTold(t, begin+"show "+strings.Repeat(one, (mostBench-len(begin)-5)/len(one)), said+"error 61\n", dot, true)
	}
	// A text of great shapes, to the last byte.
	great := "new 199\n"
	for i := 1; len(great) < mostBench-600; i++ {
		great += putText(i, longLine(30)) + "\n"
		if i%8 == 0 {
			great += "commit\ncompact\n"
		}
	}
	great = fill(great, "", mostBench)
	checkBench(t, great)
	checkBench(t, great+"x")
	if m, ok := impl.Final(great); !ok || len(m) < 16 {
		t.Error("the test itself is wrong:", shortLines(impl.Bench(great)))
	}
}

func TestTextsOfAsManyLinesAsMayBe(t *testing.T) {
	for _, one := range []string{"", "room", "fly", "abort", " ", "\r", "show 1", "coins 0"} {
		for _, count := range []int{mostLines - 2, mostLines - 1, mostLines, mostLines + 1, mostLines + 2, 1000} {
			for _, end := range []string{"", "\n"} {
				text := "new 4\n" + strings.Repeat(one+"\n", count-2) + "put 1 POINT (1 1)" + end
				if count > mostLines {
					checkTold(t, text, "error 63\n", nil, false)
				} else {
					checkBench(t, text)
					if _, ok := impl.Final(text); !ok {
						t.Error("a store at", count, "lines", one)
					}
				}
			}
		}
	}
	for text, want := range map[string]string{
		strings.Repeat("\n", mostLines):                                          "",
		strings.Repeat("\n", mostLines+1):                                        "error 63\n",
		strings.Repeat("\n", mostBench):                                          "error 63\n",
		strings.Repeat("\n", mostBench+1):                                        "error 63\n",
		strings.Repeat("\n", mostLines-1) + "new 4":                              "ok\n",
		strings.Repeat("\n", mostLines-1) + "new 4\n":                            "ok\n",
		strings.Repeat("\n", mostLines-1) + "new 4\n\n":                          "error 63\n",
		strings.Repeat("\n", mostLines-1) + "new 4\n ":                           "error 63\n",
		strings.Repeat("\n", mostLines) + "new 4":                                "error 63\n",
		strings.Repeat("room\n", mostLines):                                      strings.Repeat("error 62\n", mostLines),
		strings.Repeat("room\n", mostLines) + "\n":                               "error 63\n",
		strings.Repeat("room\n", mostLines) + "r":                                "error 63\n",
		strings.Repeat("room\n", mostLines-1) + "room":                           strings.Repeat("error 62\n", mostLines),
		strings.Repeat("\r", mostBench):                                          "error 60\n",
		strings.Repeat(strings.Repeat("x", 119)+"\n", mostLines):                 strings.Repeat("error 60\n", mostLines),
		strings.Repeat(strings.Repeat("x", 119)+"\n", mostLines-1) + "x\n\nroom": "error 63\n",
	} {
		_, ok := impl.Final(text)
		if got := impl.Bench(text); got != want || ok != (want == "ok\n") {
			t.Errorf("%d bytes, %d ends: %q, not %q; %v", len(text), strings.Count(text, "\n"), short(got), short(want), ok)
		}
		checkBench(t, text)
	}
	// One line more than may be, and all answers are gone.
	all := script{"new 9", "ok"}
	for i := 1; i < mostLines; i++ {
		all = all.and(fmt.Sprint("coins ", i), "armed")
	}
	all.check(t, "a hundred lines")
	checkTold(t, all.text()+"\n", "error 63\n", nil, false)
}

func TestFinalByExample(t *testing.T) {
	one, two := entry(1, point(1, 1)), entry(2, line(0, 0, 2, 2))
	for _, c := range []struct {
		text string
		ok   bool
		m    []impl.Entry
	}{
		{"", false, nil},
		{"\n", false, nil},
		{"room", false, nil},
		{"new 3", false, nil},
		{"new", false, nil},
		{"New 4", false, nil},
		{"put 1 POINT (1 1)\ncommit", false, nil},
		{"new 4", true, nil},
		{"new 4\nnew 3", true, nil},
		{"new 4\nput 1 POINT (1 1)", true, nil},
		{"new 4\nput 1 POINT (1 1)\ncommit", true, []impl.Entry{one}},
		{"new 4\nput 1 POINT (1 1)\ncommit\nnew 3", true, []impl.Entry{one}},
		{"new 4\nput 1 POINT (1 1)\ncommit\nnew 4", true, nil},
		{"new 4\nput 1 POINT (1 1)\ncommit\nput 2 LINE (0 0, 2 2)", true, []impl.Entry{one}},
		{"new 4\nput 1 POINT (1 1)\ncommit\ndrop 1", true, []impl.Entry{one}},
		{"new 4\nput 1 POINT (1 1)\ncommit\ndrop 1\nabort", true, []impl.Entry{one}},
		{"new 4\nput 1 POINT (1 1)\ncommit\ndrop 1\ncommit", true, nil},
		{"new 4\nput 1 POINT (1 1)\ncommit\nput 1 POINT (9 9)\ncompact", true, []impl.Entry{one}},
		{"new 4\nput 2 LINE (0 0, 2 2)\nput 1 POINT (1 1)\ncommit", true, []impl.Entry{one, two}},
		{"new 4\nput 1 POINT (1 1)\ncommit\nput 2 LINE (0 0, 2 2)\ncoins 0\ncommit", true, []impl.Entry{one}},
		{"new 4\nput 1 POINT (1 1)\ncommit\nput 2 LINE (0 0, 2 2)\ncoins 1\ncommit", true, []impl.Entry{one}},
		{"new 4\nput 1 POINT (1 1)\ncommit\nput 2 LINE (0 0, 2 2)\ncoins 2\ncommit", true, []impl.Entry{one}},
		{"new 4\nput 1 POINT (1 1)\ncommit\nput 2 LINE (0 0, 2 2)\ncoins 3\ncommit", true, []impl.Entry{one, two}},
		{"new 4\nput 1 POINT (1 1)\ncommit\nput 2 LINE (0 0, 2 2)\ncoins 3", true, []impl.Entry{one}},
		{"new 4\nput 1 POINT (1 1)\ncommit\nput 2 LINE (0 0, 2 2)\ncoins 0\ncompact", true, []impl.Entry{one}},
		{"new 4\nput 1 POINT (1 1)\ncommit\nput 2 LINE (0 0, 2 2)\ncoins 1\ncompact\ncommit", true, []impl.Entry{one}},
		{"new 4\nput 1 POINT (1 1)\ncommit" + strings.Repeat("\n", mostLines), false, nil},
		{"new 4\nput 1 POINT (1 1)\ncommit" + strings.Repeat("\n", mostLines-2), true, []impl.Entry{one}},
		{"new 4\nput 1 POINT (1 1)\ncommit\n" + strings.Repeat("x", mostBench), false, nil},
	} {
		if m, ok := impl.Final(c.text); ok != c.ok || !sameEntries(m, c.m) {
			t.Errorf("Final of %q: %v %s, not %v %s", short(c.text), ok, shortList(m), c.ok, shortList(c.m))
		}
		checkBench(t, c.text)
	}
}

// benchTexts are right ones with all commands, refused ones, and such that are cut off.
func benchTexts() []string {
	some := script{
		"new 30", "", "put 4 AREA ((0 0, 9 0, 9 9, 0 9), (2 2, 2 5, 5 5, 5 2))", "", "put 2 LINES ((0 0, 1 1), (2 2, 3 3, 2 2))", "", "put 9 POINTS (1 2, 1 2)", "", "commit", "", "show 4", "", "drop 2", "", "put 4 LINE (0 0, 4 4)", "", "coins 0", "", "commit", "", "window 0 0 9 9", "", "near 9 9 3", "", "meet LINE (0 0, 9 9)", "", "put 1 POINT (5 5)", "", "coins 1", "", "compact", "", "room", "", "put 7 POINT (7 7)", "", "commit", "", "drop 8", "", "fly", "", "put 7", "",
	}.text()
	return []string{
		some, strings.Replace(some, "new 30", "new 5", 1), strings.Replace(some, "coins 0", "coins 3", 1), strings.Replace(some, "coins 1", "coins 254", 1), some + "drop 4\nput 11 POINT (0 0)\n", some + "new 4\n", some + strings.Repeat("\n", mostLines), "", "room", "new 4", strings.Repeat("x", mostBench+1), armedBench().text(), some[:len(some)/2], some[len(some)/2:],
	}
}

func TestTheEntriesOfFinalAreTheirOwn(t *testing.T) {
	for _, text := range benchTexts() {
		kept, ok := impl.Final(text)
		want := cloneEntries(kept)
		said := impl.Bench(text)
		other, _ := impl.Final(text)
		overwriteStore(impl.Store{Map: other})
		again, okAgain := impl.Final(text)
		if !sameEntries(kept, want) || !sameEntries(again, want) || ok != okAgain || impl.Bench(text) != said {
			t.Fatalf("Final shares memory with an earlier answer: %s", shortLines(text))
		}
		checkShapesApart(t, "Final", shapesIn(kept, shapeOfEntry))
		var all []span
		for _, m := range [][]impl.Entry{kept, again} {
			all = append(all, spanOf(m)...)
			for _, e := range m {
				all = append(all, spanOf(e.Shape.Rings)...)
				for _, row := range e.Shape.Rings {
					all = append(all, spanOf(row)...)
				}
			}
		}
		checkApartFrom(t, "Final", all, nil)
	}
}

// What is answered hangs on the text as it was: its memory, and what lies behind it, is neither written nor kept.
func TestTheBenchLeavesItsText(t *testing.T) {
	for _, text := range benchTexts() {
		want := strings.Clone(impl.Bench(text))
		wantMap, wantOk := impl.Final(text)
		memory := []byte(text + "\nnew 9\n")
		given := unsafe.String(unsafe.SliceData(memory), len(text))
		said := impl.Bench(given)
		m, ok := impl.Final(given)
		if string(memory) != text+"\nnew 9\n" {
			t.Fatalf("the text was changed: %s", shortLines(text))
		}
		overwriteBytes(memory)
		if said != want || ok != wantOk || !sameEntries(m, wantMap) {
			t.Fatalf("an answer hangs on the memory of its text: %s", shortLines(text))
		}
	}
}

// What was told ahead leaves nothing behind; nor do calls at the same time.
func TestTheBenchKeepsNothing(t *testing.T) {
	t.Parallel()
	d := &dice{1702}
	list := benchTexts()
	for range 20 {
		list = append(list, d.benchText(30))
	}
	checkKeepsNothing(t, list, func(text string) string {
		m, ok := impl.Final(text)
		return fmt.Sprint(impl.Bench(text), ok, m)
	}, shortLines)
}

// benchLine is most often a right one, of few Ids and small shapes.
func (d *dice) benchLine() string {
	id := func() int { return 1 + d.below(7) }
	near := func() int { return d.below(14) - 2 }
	shape := func() string { return wantShapeText(d.nearShape(1 + d.below(5))) }
	switch d.below(16) {
	case 0, 1, 2, 3:
		return fmt.Sprint("put ", id(), " ", shape())
	case 4:
		return fmt.Sprint("drop ", id())
	case 5, 6:
		return "commit"
	case 7:
		return []string{"abort", "room"}[d.below(2)]
	case 8:
		return "compact"
	case 9, 10:
		return fmt.Sprint("coins ", []int{0, 1, 3, 7, 15, 127, 254, 255, d.below(256)}[d.below(9)])
	case 11:
		return fmt.Sprint("show ", id())
	case 12:
		x, y := near(), near()
		return fmt.Sprint("window ", x, " ", y, " ", x+d.below(5), " ", y+d.below(5))
	case 13:
		return fmt.Sprint("near ", near(), " ", near(), " ", d.below(6)-1)
	case 14:
		return "meet " + shape()
	}
	return d.oddLine()
}

// oddLine is one that is refused, or empty, or has one byte otherwise.
func (d *dice) oddLine() string {
	odd := []string{"", " ", "fly", "new 3", "coins 256", "put 0 POINT (1 1)", "put 1 POINT (1 1", "drop 77", "commit ", "commit 1", "window 1 1 0 0", "near 10000001 0 1", "show", "room\r", "new 4", "meet POINT (-0 1)"}
	if d.below(2) == 0 {
		return odd[d.below(len(odd))]
	}
	line := []byte("window 0 0 12 9")
	if d.below(2) == 0 {
		line = []byte("put 3 LINE (0 0, 10 -1)")
	}
	at := d.below(len(line))
	switch d.below(3) {
	case 0:
		return string(slices.Delete(line, at, at+1))
	case 1:
		return string(slices.Insert(line, at, " 0-1("[d.below(5)]))
	}
	line[at] = " 01x-\xff"[d.below(6)]
	return string(line)
}

// benchText has so many lines, most often of one store.
func (d *dice) benchText(lines int) string {
	text := ""
	if d.below(10) > 0 {
		text = fmt.Sprint("new ", leastArea+d.below(14), "\n")
	}
	for range lines {
		text += d.benchLine() + "\n"
		if d.below(60) == 0 {
			text += fmt.Sprint("new ", leastArea+d.below(30), "\n")
		}
	}
	if d.below(2) == 0 {
		return strings.TrimSuffix(text, "\n")
	}
	return text
}

func TestBenchesByChance(t *testing.T) {
	t.Parallel()
	d := &dice{1703}
	seen := map[string]int{}
	for range 120 {
		text := d.benchText(5 + d.below(40))
		checkEachLine(t, text)
		for line := range strings.Lines(impl.Bench(text)) {
			word, rest, _ := strings.Cut(strings.TrimSpace(line), " ")
			if word == "error" {
				word += " " + rest
			}
			seen[word]++
		}
	}
	for _, what := range []string{"ok", "entries", "crashed", "armed", "none", "ids", "room", "error 31", "error 33", "error 60", "error 61", "error 62", "POINT", "POINTS", "LINE", "LINES", "AREA"} {
		if seen[what] < 3 {
			t.Error("too few of a kind:", what, seen)
		}
	}
}

// A crash leaves the map ahead or behind, whole, as Final tells; and behind it the store goes on.
func TestCrashesOfBenchesByChance(t *testing.T) {
	t.Parallel()
	d := &dice{1704}
	seen := map[string]int{}
	for range 150 {
		text := fmt.Sprint("new ", 12+d.below(80), "\n")
		for range 6 {
			for range 1 + d.below(5) {
				text += fmt.Sprint("put ", 1+d.below(9), " ", wantShapeText(d.nearShape(1+d.below(5))), "\n")
			}
			ahead, _ := impl.Final(text)
			// With all coins a commit is whole.
			behind, ok := impl.Final(text + "coins 255\ncommit\n")
			word := []string{"commit", "commit", "compact"}[d.below(3)]
			if word == "compact" {
				behind = ahead
			}
			text += fmt.Sprint("coins ", []int{0, 255, 255, 127, 254, d.below(256)}[d.below(6)], "\n", word, "\n")
			got, gotOk := impl.Final(text)
			if !ok || !gotOk || !sameEntries(got, ahead) && !sameEntries(got, behind) {
				t.Fatalf("neither the map ahead nor the one behind: %s, behind\n%s", shortList(got), shortLines(text))
			}
			if said := impl.Bench(text); strings.HasSuffix(said, fmt.Sprintf("crashed %d\n", len(got))) {
				seen[fmt.Sprint(word, sameEntries(got, behind))]++
			} else if !strings.HasSuffix(said, "error 31\n") {
				t.Fatalf("neither crashed nor full:\n%s", shortLines(said))
			}
		}
	}
	if seen["committrue"] < 50 || seen["commitfalse"] < 50 || seen["compacttrue"] < 50 {
		t.Error("the test itself is wrong:", seen)
	}
}

// Each byte of a text left out, doubled or otherwise, and the text cut at each byte.
func TestTextsOfTheBenchWithAByteChanged(t *testing.T) {
	t.Parallel()
	text := "new 12\nput 1 POINT (1 1)\nput 20 LINE (0 0, -9 3)\ncommit\ncoins 10\ndrop 1\ncommit\nwindow -1 0 1 2\nnear 0 10 2\nmeet POINT (0 0)\ncompact\nshow 20\nabort\nroom"
	for i := range len(text) {
		checkBench(t, text[:i])
		checkBench(t, text[:i]+text[i+1:])
		checkBench(t, text[:i+1]+text[i:])
		for _, one := range "\n 019-(x\r\x00" {
			checkBench(t, text[:i]+string(one)+text[i+1:])
			checkBench(t, text[:i]+string(one)+text[i:])
		}
		checkBench(t, text[:i]+"\xff"+text[i+1:])
	}
}

func TestBytesOfNoLines(t *testing.T) {
	t.Parallel()
	d := &dice{1705}
	letters := "\n\n\n   0123456789-(),\r\tPOINTLINEAREAScommitabortcompactcoinsshowwindownearmeetroomputdropnew\x00\xff"
	for range 2000 {
		some := d.bytes(d.below(300))
		for i, b := range some {
			if d.below(20) > 0 {
				some[i] = letters[int(b)%len(letters)]
			}
		}
		checkBench(t, string(some))
		checkBench(t, "new 9\n"+string(some))
	}
	for range 50 {
		checkBench(t, string(d.bytes(d.below(mostBench+100))))
	}
}

package tests

import (
	"fmt"
	"math"
	"regexp"
	"slices"
	"strconv"
	"strings"
	"testing"

	"loop.example/g00108/impl"
)

// pattern is of the texts of a language, as the library's expression, and of the beginnings of these texts.
type pattern struct{ whole, begun string }

func letters(s string) pattern {
	p := pattern{}
	for _, r := range s {
		one := regexp.QuoteMeta(string(r))
		p = inTurn(p, pattern{one, "(?:" + one + ")?"})
	}
	return p
}

func inTurn(parts ...pattern) pattern {
	p := parts[0]
	for _, next := range parts[1:] {
		p = pattern{p.whole + next.whole, "(?:" + p.begun + "|" + p.whole + next.begun + ")"}
	}
	return p
}

func either(parts ...pattern) pattern {
	var whole, begun []string
	for _, p := range parts {
		whole, begun = append(whole, p.whole), append(begun, p.begun)
	}
	return pattern{"(?:" + strings.Join(whole, "|") + ")", "(?:" + strings.Join(begun, "|") + ")"}
}

func anyTimes(p pattern) pattern {
	some := "(?:" + p.whole + ")*"
	return pattern{some, some + p.begun}
}

func bracketed(p pattern) pattern {
	return inTurn(letters("("), p, anyTimes(inTurn(letters(", "), p)), letters(")"))
}

// shapeTexts is what chapter 7 calls such texts: the form of a text, whatever its numbers and how many points and rows.
func shapeTexts() (whole, begun *regexp.Regexp) {
	number := pattern{"(?:0|-?[1-9][0-9]{0,8})", "(?:0|-?(?:[1-9][0-9]{0,8})?)"}
	row := bracketed(inTurn(number, letters(" "), number))
	rows := bracketed(row)
	all := either(inTurn(letters("POINT "), row), inTurn(letters("POINTS "), row), inTurn(letters("LINE "), row), inTurn(letters("LINES "), rows), inTurn(letters("AREA "), rows))
	whole, begun = regexp.MustCompile("^"+all.whole+"$"), regexp.MustCompile("^"+all.begun)
	begun.Longest()
	return whole, begun
}

// wantText tells by the library's expressions what ParseShape answers.
type wantText struct{ whole, begun *regexp.Regexp }

func newWantText() wantText {
	whole, begun := shapeTexts()
	return wantText{whole, begun}
}

func wordsOfKinds() map[string]int {
	return map[string]int{"POINT": impl.ShapePoint, "POINTS": impl.ShapePoints, "LINE": impl.ShapeLine, "LINES": impl.ShapeLines, "AREA": impl.ShapeArea}
}

// splitShape is the shape of a text whose form is right.
func splitShape(text string) impl.Shape {
	word, rest, _ := strings.Cut(text, " ")
	s := impl.Shape{Kind: wordsOfKinds()[word]}
	for one := range strings.SplitSeq(strings.Trim(rest, "()"), "), (") {
		var row []impl.Pt
		for p := range strings.SplitSeq(one, ", ") {
			x, y, _ := strings.Cut(p, " ")
			row = append(row, pt(intOf(x), intOf(y)))
		}
		s.Rings = append(s.Rings, row)
	}
	return s
}

func intOf(s string) int {
	n, err := strconv.ParseInt(s, 10, 64)
	if err != nil {
		panic(err)
	}
	return int(n)
}

func (w wantText) parsed(text string) (impl.Shape, int, int) {
	if !w.whole.MatchString(text) {
		return impl.Shape{}, impl.TextForm, w.begun.FindStringIndex(text)[1]
	}
	if s := splitShape(text); good(s) {
		return s, impl.TextGood, 0
	}
	return impl.Shape{}, impl.TextShape, 0
}

// check holds ParseShape against the library, and tells its code.
func (w wantText) check(t *testing.T, text string) int {
	t.Helper()
	wantShape, wantCode, wantPlace := w.parsed(text)
	s, code, place := impl.ParseShape(text)
	if code != wantCode || place != wantPlace || !impl.SameShape(s, wantShape) {
		t.Fatalf("ParseShape of %q: %v %d %d, not %v %d %d", short(text), s, code, place, wantShape, wantCode, wantPlace)
	}
	if code == impl.TextGood && impl.ShapeText(s) != text {
		t.Fatalf("%q is read, and is the text of no shape", short(text))
	}
	return code
}

func short(text string) string {
	if len(text) > 300 {
		return text[:150] + " .. " + text[len(text)-150:]
	}
	return text
}

// wantShapeText writes any shape of a kind, good or not, as chapter 7 tells.
func wantShapeText(s impl.Shape) string {
	var rows []string
	for _, row := range s.Rings {
		points := fmt.Sprint(row) // [{1 2} {3 4}]
		rows = append(rows, strings.NewReplacer("[{", "(", "}]", ")", "[]", "()", "} {", ", ").Replace(points))
	}
	list := strings.Join(rows, ", ")
	for word, kind := range wordsOfKinds() {
		if kind != s.Kind {
			continue
		}
		if kind == impl.ShapeLines || kind == impl.ShapeArea {
			return word + " (" + list + ")"
		}
		return word + " " + list
	}
	return "NONE " + list
}

// checkThereAndBack: the shape is good, and comes back of its text.
func checkThereAndBack(t *testing.T, s impl.Shape) string {
	t.Helper()
	text := impl.ShapeText(s)
	if text != wantShapeText(s) {
		t.Errorf("ShapeText of %v: %q", s, short(text))
	}
	if got, code, place := impl.ParseShape(text); code != impl.TextGood || place != 0 || !impl.SameShape(got, s) {
		t.Errorf("%q comes back as %v %d %d", short(text), got, code, place)
	}
	return text
}

// written is a good shape and its text.
type written struct {
	s    impl.Shape
	text string
}

func writtenShapes() []written {
	return []written{
		{point(1, -2), "POINT (1 -2)"},
		{point(0, 0), "POINT (0 0)"},
		{point(7, 0), "POINT (7 0)"},
		{point(0, -7), "POINT (0 -7)"},
		{point(10, 100), "POINT (10 100)"},
		{point(-10, -1002003), "POINT (-10 -1002003)"},
		{point(1234567, -7654321), "POINT (1234567 -7654321)"},
		{point(9999999, -9999999), "POINT (9999999 -9999999)"},
		{point(most, -most), "POINT (10000000 -10000000)"},
		{point(-most, most), "POINT (-10000000 10000000)"},
		{points(3, 4), "POINTS (3 4)"},
		{points(1, 2, 1, 2), "POINTS (1 2, 1 2)"},
		{points(0, 0, -5, 60, 700, -8), "POINTS (0 0, -5 60, 700 -8)"},
		{points(most, most, -most, most, -most, -most, most, -most), "POINTS (10000000 10000000, -10000000 10000000, -10000000 -10000000, 10000000 -10000000)"},
		{line(0, 0, 5, 5), "LINE (0 0, 5 5)"},
		{line(-1, 10, 0, 0, 1, 10), "LINE (-1 10, 0 0, 1 10)"},
		{line(0, 0, 5, 5, 0, 0), "LINE (0 0, 5 5, 0 0)"},
		{line(-most, -most, most, most), "LINE (-10000000 -10000000, 10000000 10000000)"},
		{lines(row(0, 0, 1, 1)), "LINES ((0 0, 1 1))"},
		{lines(row(0, 0, 1, 1), row(2, 2, 3, 3)), "LINES ((0 0, 1 1), (2 2, 3 3))"},
		{lines(row(0, 0, 1, 1), row(-22, 2, 3, -333, 0, 0), row(0, 0, 1, 1)), "LINES ((0 0, 1 1), (-22 2, 3 -333, 0 0), (0 0, 1 1))"},
		{area(row(0, 0, 1, 0, 0, 1)), "AREA ((0 0, 1 0, 0 1))"},
		{area(row(0, 0, 9, 0, 0, 9), row(1, 1, 1, 2, 2, 1)), "AREA ((0 0, 9 0, 0 9), (1 1, 1 2, 2 1))"},
		{area(square(-10, -10, 20), hole(-9, -9, 3), hole(0, 0, 5)), "AREA ((-10 -10, 10 -10, 10 10, -10 10), (-9 -9, -9 -6, -6 -6, -6 -9), (0 0, 0 5, 5 5, 5 0))"},
		{area(row(-most, -most, most, -most, most, most, -most, most)), "AREA ((-10000000 -10000000, 10000000 -10000000, 10000000 10000000, -10000000 10000000))"},
	}
}

// shortTexts are those of writtenShapes that are short enough to try much with.
func shortTexts() []string {
	var out []string
	for _, w := range writtenShapes() {
		if len(w.text) < 60 {
			out = append(out, w.text)
		}
	}
	return out
}

func TestTextNumbers(t *testing.T) {
	if impl.TextGood != 0 || impl.TextForm != 10 || impl.TextShape != 11 {
		t.Error("the codes")
	}
}

func TestShapesAndTheirTexts(t *testing.T) {
	w := newWantText()
	for _, c := range writtenShapes() {
		if got := impl.ShapeText(c.s); got != c.text {
			t.Errorf("ShapeText: %q, not %q", got, c.text)
		}
		s, code, place := impl.ParseShape(c.text)
		if code != impl.TextGood || place != 0 || !impl.SameShape(s, c.s) {
			t.Errorf("ParseShape of %q: %v %d %d", c.text, s, code, place)
		}
		w.check(t, c.text)
		checkThereAndBack(t, c.s)
	}
}

func TestGoodShapesComeBack(t *testing.T) {
	w := newWantText()
	for what, s := range goodShapes() {
		t.Log(what)
		w.check(t, checkThereAndBack(t, s))
	}
}

// A text of one byte more or less may be that of another kind.
func TestTextsOfOtherKinds(t *testing.T) {
	for _, c := range []struct {
		text  string
		kind  int
		place int
	}{
		{"POINT (1 2)", impl.ShapePoint, 0}, {"POINTS (1 2)", impl.ShapePoints, 0}, {"LINE (1 2, 3 4)", impl.ShapeLine, 0}, {"LINES ((1 2, 3 4))", impl.ShapeLines, 0},
		{"LINES (1 2, 3 4)", 0, 7}, {"LINE ((1 2, 3 4))", 0, 6}, {"POINTS ((1 2))", 0, 8}, {"POINT ((1 2))", 0, 7}, {"AREA (0 0, 9 0, 0 9)", 0, 6}, {"AREA ((0 0, 9 0, 0 9))", impl.ShapeArea, 0},
		{"AREAS ((0 0, 9 0, 0 9))", 0, 4}, {"POINTSS (1 2)", 0, 6}, {"LINESS ((1 2, 3 4))", 0, 5},
	} {
		s, code, place := impl.ParseShape(c.text)
		if s.Kind != c.kind || place != c.place || (code == impl.TextGood) != (c.kind > 0) {
			t.Error(c.text, s, code, place)
		}
	}
}

// Rows of just MaxRing points, and shapes of just MaxRings rows; one more is not good, but such a text.
func TestTextsAtTheLimits(t *testing.T) {
	w := newWantText()
	for _, s := range []impl.Shape{
		shape(impl.ShapePoints, bow(-30, -900, impl.MaxRing)), shape(impl.ShapeLine, bow(-30, -900, impl.MaxRing)), lines(bow(-30, -900, impl.MaxRing)), lines(repeated(impl.MaxRings, row(0, 0, 1, 1))...), lines(repeated(impl.MaxRings, bow(0, 0, impl.MaxRing))...),
		area(bow(0, 0, impl.MaxRing)), frameAnd(impl.MaxRings-1, 3), frameAnd(impl.MaxRings-1, impl.MaxRing),
	} {
		w.check(t, checkThereAndBack(t, s))
	}
	for _, s := range []impl.Shape{
		shape(impl.ShapePoint, row(1, 2, 3, 4)), shape(impl.ShapePoints, bow(-30, -900, impl.MaxRing+1)), shape(impl.ShapeLine, bow(-30, -900, impl.MaxRing+1)), lines(bow(-30, -900, impl.MaxRing+1)), lines(repeated(impl.MaxRings+1, row(0, 0, 1, 1))...), lines(row(0, 0, 1, 1), bow(0, 0, impl.MaxRing+1)),
		area(bow(0, 0, impl.MaxRing+1)), frameAnd(impl.MaxRings, 3), frameAnd(1, impl.MaxRing+1),
		shape(impl.ShapePoint, bow(0, 0, 900)), shape(impl.ShapeLine, bow(0, 0, 900)), lines(repeated(900, row(0, 0, 1, 1))...), area(repeated(900, square(0, 0, 4))...),
	} {
		checkNoText(t, s)
		checkParse(t, wantShapeText(s), impl.TextShape, 0)
		w.check(t, wantShapeText(s))
	}
}

func checkNoText(t *testing.T, s impl.Shape) {
	t.Helper()
	if got := impl.ShapeText(s); got != "" {
		t.Errorf("%v has a text: %q", s, short(got))
	}
}

func checkParse(t *testing.T, text string, code, place int) {
	t.Helper()
	s, gotCode, gotPlace := impl.ParseShape(text)
	if gotCode != code || gotPlace != place {
		t.Errorf("ParseShape of %q: %d %d, not %d %d", short(text), gotCode, gotPlace, code, place)
	}
	if code != impl.TextGood && (s.Kind != 0 || len(s.Rings) != 0) {
		t.Errorf("ParseShape of %q, beside %d: %v", short(text), code, s)
	}
}

// fault is a text and the place that ParseShape answers beside TextForm.
type fault struct {
	text  string
	place int
}

func checkForms(t *testing.T, list []fault) {
	t.Helper()
	w := newWantText()
	for _, f := range list {
		checkParse(t, f.text, impl.TextForm, f.place)
		w.check(t, f.text)
	}
}

func TestWordsThatAreNone(t *testing.T) {
	checkForms(t, []fault{
		{"", 0}, {" ", 0}, {"\x00", 0}, {"(", 0}, {"()", 0}, {"(1 2)", 0}, {"1 2", 0}, {" POINT (1 2)", 0}, {"\nPOINT (1 2)", 0}, {"\ufeffPOINT (1 2)", 0},
		{"P", 1}, {"POINT", 5}, {"POINTS", 6}, {"L", 1}, {"LINE", 4}, {"LINES", 5}, {"A", 1}, {"AREA", 4}, {"POINT ", 6}, {"POINTS ", 7}, {"LINE ", 5}, {"LINES ", 6}, {"AREA ", 5},
		{"point (1 2)", 0}, {"Point (1 2)", 1}, {"POINt (1 2)", 4}, {"POINTs (1 2)", 5}, {"line (1 2, 3 4)", 0}, {"Line (1 2, 3 4)", 1}, {"LINEs ((1 2, 3 4))", 4}, {"area ((0 0, 9 0, 0 9))", 0}, {"AREa ((0 0, 9 0, 0 9))", 3},
		{"POINTX", 5}, {"LIXE (", 2}, {"ARENA ((0 0, 9 0, 0 9))", 3}, {"PLINE (1 2, 3 4)", 1}, {"LPOINT (1 2)", 1}, {"ALINE", 1}, {"RING ((0 0, 9 0, 0 9))", 0}, {"POLYGON ((0 0, 9 0, 0 9))", 2}, {"LINT (1 2)", 3}, {"POINE (1 2)", 4}, {"AREAL", 4}, {"Z", 0},
		{"POINT(1 2)", 5}, {"POINTS(1 2)", 6}, {"LINE(1 2, 3 4)", 4}, {"LINES((1 2, 3 4))", 5}, {"AREA((0 0, 9 0, 0 9))", 4},
		{"POINT  (1 2)", 6}, {"POINTS  (1 2)", 7}, {"LINE  (1 2, 3 4)", 5}, {"LINES  ((1 2, 3 4))", 6}, {"AREA  ((0 0, 9 0, 0 9))", 5},
		{"POINT\t(1 2)", 5}, {"POINT\u00a0(1 2)", 5}, {"POINT S (1 2)", 6}, {"POINT\x00(1 2)", 5}, {"LINE S ((1 2, 3 4))", 5}, {"POINT 1 2", 6}, {"POINT POINT (1 2)", 6}, {"POINT\n(1 2)", 5}, {"P\xd0\x9eINT (1 2)", 1},
	})
}

func TestNumbersThatAreNone(t *testing.T) {
	var list []fault
	for number, place := range map[string]int{
		"01": 1, "00": 1, "007": 1, "0x1": 1, "-0": 1, "-01": 1, "-00": 1, "-": 1, "--1": 1, "--": 1, "-+1": 1, "+1": 0, "+0": 0, "+": 0, "1-": 1, "1+2": 1, "a": 0, "1a": 1, "1e5": 1, "1.5": 1, ".5": 0, "1_0": 1, "- 1": 1, "\x00": 0, "1\x00": 1, "١": 0, "-١": 1, "1٢": 1, "１": 0, "−1": 0, "\xb1": 0, "1\xff": 1, "\"1\"": 0, "/": 0, ":": 0, "1/": 1, "1:": 1,
		"1234567890": 9, "-1234567890": 10, "9999999999": 9, "1000000000": 9, "0000000000": 1, "12345678901": 9, "-9999999999": 10, "18446744073709551617": 9, "-0000000001": 1, "123456789-": 9,
		strings.Repeat("9", 400): 9, "-" + strings.Repeat("1", 400): 10, strings.Repeat("-", 400): 1, strings.Repeat("0", 400): 1,
	} {
		for _, around := range [][2]string{{"POINT (", " 2)"}, {"POINT (3 ", ")"}, {"POINTS (1 2, ", " 7)"}, {"LINE (0 0, 5 ", ")"}, {"LINES ((0 0, ", " 7))"}, {"LINES ((0 0, 1 1), (0 0, 5 ", "))"}, {"AREA ((", " 0, 9 0, 0 9))"}, {"AREA ((0 0, 9 0, 0 9), (1 1, 1 2, 2 ", "))"}} {
			list = append(list, fault{around[0] + number + around[1], len(around[0]) + place})
		}
	}
	checkForms(t, append(list, []fault{
		{"POINT ( 2)", 7}, {"POINT (1 )", 9}, {"POINT (1  2)", 9}, {"POINT (1)", 8}, {"POINT ( 1 2)", 7}, {"POINT (1 2 )", 10}, {"POINT (1\t2)", 8}, {"POINT (1,2)", 8}, {"POINT (1, 2)", 8}, {"POINT (1 2 3)", 10}, {"POINT (1(2)", 8}, {"POINT (12)", 9}, {"POINT (1 2", 10}, {"POINT (1 -", 10}, {"POINT (-", 8}, {"POINT (0", 8}, {"POINT (1 0", 10}, {"POINT (123456789", 16}, {"POINT (-123456789", 17},
		{"LINE (1 2, )", 11}, {"LINE (1 2, 3)", 12}, {"LINE (1 2, 3 )", 13}, {"LINE (1 2, 3, 4)", 12},
	}...))
}

func TestRowsThatAreNone(t *testing.T) {
	checkForms(t, []fault{
		// Commas.
		{"POINTS (1 2,3 4)", 12}, {"POINTS (1 2,  3 4)", 13}, {"POINTS (1 2 , 3 4)", 11}, {"POINTS (1 2,)", 12}, {"POINTS (1 2, )", 13}, {"POINTS (1 2,, 3 4)", 12}, {"POINTS (1 2, , 3 4)", 13}, {"POINTS (, 1 2)", 8}, {"POINTS (1 2; 3 4)", 11}, {"POINTS (1 2 3 4)", 11}, {"POINTS (1 2,\t3 4)", 12}, {"POINTS (1 2,", 12}, {"POINTS (1 2, ", 13}, {"POINTS (1 2,\x00", 12},
		{"LINES ((0 0, 1 1),(2 2, 3 3))", 18}, {"LINES ((0 0, 1 1),  (2 2, 3 3))", 19}, {"LINES ((0 0, 1 1) (2 2, 3 3))", 17}, {"LINES ((0 0, 1 1),)", 18}, {"LINES ((0 0, 1 1), )", 19}, {"LINES ((0 0, 1 1)(2 2, 3 3))", 17}, {"LINES (, (0 0, 1 1))", 7}, {"LINES ((0 0, 1 1),, (2 2, 3 3))", 18}, {"LINES ((0 0, 1 1), 2 2, 3 3)", 19}, {"LINES ((0 0, 1 1), 2 2)", 19}, {"AREA ((0 0, 9 0, 0 9),(1 1, 1 2, 2 1))", 22},
		// Brackets.
		{"POINT 1 2)", 6}, {"POINT (1 2", 10}, {"POINT (1 2))", 11}, {"POINT ((1 2)", 7}, {"POINT ((1 2))", 7}, {"POINT ()", 7}, {"POINT )", 6}, {"POINT (", 7}, {"POINT (1 2(", 10}, {"POINT [1 2]", 6}, {"POINT (1 2]", 10}, {"POINT (1 2}", 10}, {"POINT (1 (2))", 9}, {"POINT (1) (2)", 8}, {"POINT (1 2)(3 4)", 11}, {"POINT (1 2), (3 4)", 11}, {"POINTS ()", 8}, {"POINTS (1 2), (3 4)", 12}, {"POINTS ((1 2), (3 4))", 8}, {"LINE ()", 6}, {"LINE (0 0, 1 1), (2 2, 3 3)", 15}, {"LINE (0 0, (1 1))", 11},
		{"LINES ()", 7}, {"LINES (())", 8}, {"LINES ((0 0, 1 1)", 17}, {"LINES (0 0, 1 1))", 7}, {"LINES (1 1)", 7}, {"LINES ((0 0, 1 1)))", 18}, {"LINES (((0 0, 1 1)))", 8}, {"LINES ((0 0, 1 1), ())", 20}, {"LINES ((0 0, 1 1), (2 2, 3 3)", 29}, {"LINES ((0 0, 1 1, (2 2, 3 3)))", 18}, {"LINES (0 0, 1 1), (2 2, 3 3)", 7}, {"LINES ((0 0, 1 1)), ((2 2, 3 3))", 18}, {"LINES (", 7}, {"LINES ((", 8}, {"LINES )", 6},
		{"AREA ()", 6}, {"AREA (())", 7}, {"AREA ((), (1 1, 1 2, 2 1))", 7}, {"AREA ((0 0, 9 0, 0 9)", 21}, {"AREA (0 0, 9 0, 0 9))", 6}, {"AREA ((0 0, 9 0, 0 9)))", 22}, {"AREA ((0 0, 9 0, 0 9), ())", 24}, {"AREA ((0 0, 9 0, 0 9), ((1 1, 1 2, 2 1)))", 24}, {"AREA ((0 0, 9 0, 0 9", 20}, {"AREA ((0 0, 9 0, 0 9)]", 21},
		// Behind the end.
		{"POINT (1 2) ", 11}, {"POINT (1 2)\n", 11}, {"POINT (1 2)\x00", 11}, {"POINT (1 2),", 11}, {"POINT (1 2)P", 11}, {"POINT (1 2)\xff", 11}, {"POINT (1 2)POINT (1 2)", 11}, {"POINT (1 2) POINT (1 2)", 11}, {"POINTS (1 2)0", 12}, {"LINE (0 0, 5 5) ", 15}, {"LINE (0 0, 5 5))", 15}, {"LINES ((0 0, 1 1)) ", 18}, {"AREA ((0 0, 9 0, 0 9));", 22}, {"AREA ((0 0, 9 0, 0 9)), (1 1, 1 2, 2 1)", 22},
		// The form comes ahead of whether the shape is good.
		{"LINE (1 1) ", 10}, {"POINT (99999999 1", 17}, {"POINT (1 2, 3 4, )", 17}, {"AREA ((0 0)) .", 12}, {"LINE (1 1, 1 1, 1 01)", 19},
	})
}

// Such texts whose shape is not good.
func TestTextsOfShapesThatAreNotGood(t *testing.T) {
	w := newWantText()
	for _, text := range []string{
		"POINT (10000001 0)", "POINT (0 10000001)", "POINT (-10000001 0)", "POINT (0 -10000001)", "POINT (123456789 1)", "POINT (999999999 -999999999)", "POINT (-100000000 100000000)", "POINTS (1 2, 3 4, 5 10000001)", "LINE (1 2, -10000001 4)", "LINES ((1 2, 3 4), (5 6, 7 20000000))", "AREA ((0 0, 10000001 0, 0 9))", "AREA ((0 0, 99 0, 0 99), (1 1, 1 2, 2 999999999))",
		"LINE (1 1)", "LINES ((1 1))", "LINES ((0 0, 1 1), (2 2))", "LINES ((2 2), (0 0, 1 1))", "AREA ((0 0))", "AREA ((0 0, 9 0))", "AREA ((0 0, 9 0, 0 9), (1 1, 1 2))", "AREA ((0 0, 9 0, 0 9), (1 1))",
		"POINT (1 2, 3 4)", "POINT (1 2, 1 2)", "POINT (1 2, 3 4, 5 6)",
		"LINE (1 1, 1 1)", "LINE (0 0, 1 1, 1 1)", "LINES ((0 0, 1 1), (2 2, 2 2))", "AREA ((0 0, 9 0, 9 0, 0 9))", "AREA ((0 0, 9 0, 0 9, 0 0))", "AREA ((0 0, 0 0, 0 0))",
		"AREA ((0 0, 9 9, 9 0, 0 9))", "AREA ((0 0, 9 0, 4 0))", "AREA ((0 0, 0 9, 9 0))", "AREA ((0 0, 5 5, 9 9))", "AREA ((0 0, 9 0, 0 9), (1 1, 2 1, 1 2))", "AREA ((0 0, 9 0, 0 9), (1 1, 1 9, 9 1))", "AREA ((0 0, 9 0, 0 9), (21 1, 21 2, 22 1))", "AREA ((0 0, 9 0, 0 9), (1 1, 1 2, 2 1), (1 1, 1 2, 2 1))", "AREA ((0 0, 9 0, 0 9), (0 0, 0 9, 9 0))",
	} {
		checkParse(t, text, impl.TextShape, 0)
		w.check(t, text)
	}
	for what, s := range wrongShapes() {
		checkNoText(t, s)
		t.Log(what)
		w.check(t, wantShapeText(s))
	}
}

func TestShapesWithoutText(t *testing.T) {
	for _, s := range spoiltShapes() {
		checkNoText(t, s)
	}
}

// Cut at any of its bytes, a text ends too early.
func TestTextsThatAreCut(t *testing.T) {
	var list []string
	for _, w := range writtenShapes() {
		list = append(list, w.text)
	}
	for _, s := range inOrder(goodShapes()) {
		list = append(list, impl.ShapeText(s))
	}
	for _, text := range append(list, "POINT (123456789 -123456789, 0 0)", "AREA ((1 1), (2 2))") {
		for n := range len(text) {
			checkParse(t, text[:n], impl.TextForm, n)
		}
	}
}

// Each byte is once each other one.
func TestTextsWithAByteChanged(t *testing.T) {
	w := newWantText()
	codes := map[int]int{}
	for _, text := range shortTexts() {
		for place := range len(text) {
			for b := range 256 {
				codes[w.check(t, text[:place]+string([]byte{byte(b)})+text[place+1:])]++
			}
		}
	}
	for _, code := range []int{impl.TextGood, impl.TextForm, impl.TextShape} {
		if codes[code] < 100 {
			t.Error("the test itself is wrong:", codes)
		}
	}
}

func TestTextsWithAByteMore(t *testing.T) {
	w := newWantText()
	codes := map[int]int{}
	for _, text := range shortTexts() {
		for place := range len(text) + 1 {
			for b := range 256 {
				codes[w.check(t, text[:place]+string([]byte{byte(b)})+text[place:])]++
			}
		}
	}
	for _, code := range []int{impl.TextGood, impl.TextForm, impl.TextShape} {
		if codes[code] < 100 {
			t.Error("the test itself is wrong:", codes)
		}
	}
}

// Bytes that are doubled, left out, or that have changed their places.
func TestTextsWithBytesMoved(t *testing.T) {
	w := newWantText()
	var list []string
	for _, c := range writtenShapes() {
		list = append(list, c.text)
	}
	for _, text := range append(list, impl.ShapeText(lines(repeated(impl.MaxRings, bow(-2, -3, 5))...)), "POINT (123456789 -987654321)") {
		for place := range len(text) {
			w.check(t, text[:place]+text[place:place+1]+text[place:])
			w.check(t, text[:place]+text[place+1:])
			w.check(t, text[place:])
			w.check(t, text[place:]+text[:place])
			if place > 0 {
				w.check(t, text[:place-1]+text[place:place+1]+text[place-1:place]+text[place+1:])
			}
			for n := 2; n < 8 && place+n <= len(text); n++ {
				w.check(t, text[:place]+text[place:place+n]+text[place:])
				w.check(t, text[:place]+text[place+n:])
			}
		}
	}
}

// All short rests over the bytes that texts are made of, behind some beginnings.
func TestAllShortTexts(t *testing.T) {
	w := newWantText()
	const bytes = "017- ,()"
	codes := map[int]int{}
	var grow func(text string, n int)
	grow = func(text string, n int) {
		codes[w.check(t, text)]++
		if n == 0 {
			return
		}
		for i := range len(bytes) {
			grow(text+bytes[i:i+1], n-1)
		}
	}
	for _, begun := range []string{"POINT (", "POINTS (1 2", "LINE (5 5, ", "LINES ((0 0, 7 7)", "AREA ((0 0, 9 0, 0 9", "LINES ", "POINT (12345678"} {
		grow(begun, 5)
	}
	for _, code := range []int{impl.TextGood, impl.TextForm, impl.TextShape} {
		if codes[code] < 50 {
			t.Error("the test itself is wrong:", codes)
		}
	}
}

func TestAllShortWords(t *testing.T) {
	w := newWantText()
	const bytes = "POINTSLEAR ("
	var grow func(text string, n int)
	grow = func(text string, n int) {
		w.check(t, text)
		for i := range len(bytes) {
			if n > 0 {
				grow(text+bytes[i:i+1], n-1)
			}
		}
	}
	for _, begun := range []string{"", "PO", "POI", "POIN", "POINT", "POINTS", "LI", "LIN", "LINE", "LINES", "AR", "ARE", "AREA"} {
		grow(begun, 3)
	}
}

// Shapes of all kinds, good ones and others, by their texts.
func TestTextsByChance(t *testing.T) {
	w := newWantText()
	d := &dice{71}
	codes := map[[2]int]int{}
	for i := range 3 * rounds {
		s := d.turnAbout(i)
		if good(s) {
			checkThereAndBack(t, s)
		} else {
			checkNoText(t, s)
		}
		codes[[2]int{s.Kind, w.check(t, wantShapeText(s))}]++
	}
	for _, kind := range allKinds() {
		if codes[[2]int{kind, impl.TextGood}] < 100 || codes[[2]int{kind, impl.TextShape}]+codes[[2]int{kind, impl.TextForm}] == 0 {
			t.Error("the test itself is wrong:", codes)
		}
	}
}

// Numbers of any digits in each place, up to ten of them.
func TestNumbersInTextsByChance(t *testing.T) {
	w := newWantText()
	d := &dice{72}
	codes := map[int]int{}
	number := func() string {
		text := ""
		for range 1 + d.below(10) {
			text += strconv.Itoa(d.below(10))
		}
		if d.below(4) > 0 {
			text = strings.TrimLeft(text, "0") + "0"
		}
		if d.below(3) == 0 {
			text = "-" + text
		}
		return text
	}
	for range 4 * rounds {
		codes[w.check(t, "POINTS ("+number()+" "+number()+")")]++
	}
	for _, code := range []int{impl.TextGood, impl.TextForm, impl.TextShape} {
		if codes[code] < 500 {
			t.Error("the test itself is wrong:", codes)
		}
	}
	for x := -most - 3; x <= most+3; x += 1 + d.below(2*most/rounds) {
		w.check(t, fmt.Sprintf("POINT (%d %d)", x, -x))
	}
	for _, x := range []int{-most - 1, -most, 1 - most, -10, -9, -1, 0, 1, 9, 10, 11, 99, 100, 101, most - 1, most, most + 1} {
		w.check(t, fmt.Sprintf("POINT (%d %d)", x, x))
	}
}

// Bytes by chance, and a good text with several of them changed.
func TestBytesByChance(t *testing.T) {
	w := newWantText()
	d := &dice{73}
	list := shortTexts()
	for range 4 * rounds {
		text := []byte(list[d.below(len(list))])
		for range 1 + d.below(4) {
			at := d.below(len(text))
			switch d.below(3) {
			case 0:
				text[at] = "0123456789 ,()-POINTSLEAR"[d.below(25)]
			case 1:
				text = slices.Insert(text, at, "0123456789 ,()-"[d.below(15)])
			default:
				text[at] = byte(d.below(256))
			}
		}
		w.check(t, string(text))
	}
}

// Texts far longer than that of any good shape.
func TestLongTexts(t *testing.T) {
	many := strings.Repeat("1 2, ", 100000)
	checkParse(t, "POINTS ("+many+"1 2)", impl.TextShape, 0)
	checkParse(t, "POINT ("+many+"1 2)", impl.TextShape, 0)
	checkParse(t, "POINTS ("+many+")", impl.TextForm, 8+len(many))
	checkParse(t, "POINTS ("+many, impl.TextForm, 8+len(many))
	checkParse(t, "AREA (("+many+"1 2))", impl.TextShape, 0)
	rows := strings.Repeat("(1 2, 3 4), ", 100000)
	checkParse(t, "LINES ("+rows+"(1 2, 3 4))", impl.TextShape, 0)
	checkParse(t, "LINES ("+rows+"(1 2, 3 4)", impl.TextForm, 17+len(rows))
	checkParse(t, "AREA ("+rows+"1", impl.TextForm, 6+len(rows))
	checkParse(t, "AREA "+strings.Repeat("(", 1000000), impl.TextForm, 7)
	checkParse(t, strings.Repeat("POINT ", 100000), impl.TextForm, 6)
	checkParse(t, "POINT (1 2)"+strings.Repeat(" ", 1000000), impl.TextForm, 11)
	checkParse(t, "POINT ("+strings.Repeat("1", 1000000), impl.TextForm, 16)
	checkParse(t, strings.Repeat("\xff", 1000000), impl.TextForm, 0)
}

// checkLeavesShapes: a call changes no shape, nor what lies behind its rows, and looks at nothing there.
func checkLeavesShapes(t *testing.T, call func(impl.Shape) string) {
	t.Helper()
	for _, odd := range []impl.Pt{pt(5, 5), pt(most+1, 0), pt(math.MinInt, math.MaxInt)} {
		for _, s := range shapesForMemory() {
			roomy, memory, all := roomyShape(s, odd)
			points, rows := slices.Clone(memory), cloned(impl.Shape{Rings: all})
			if call(roomy) != call(s) {
				t.Fatal("what lies behind is looked at:", s)
			}
			if !slices.Equal(memory, points) || !impl.SameShape(impl.Shape{Rings: all}, rows) || len(roomy.Rings) != len(s.Rings) || roomy.Kind != s.Kind {
				t.Fatal("a shape was changed:", s, roomy)
			}
		}
	}
}

func TestShapeTextLeavesItsShape(t *testing.T) { checkLeavesShapes(t, impl.ShapeText) }

// A text is what it was when it was told, whatever becomes of its shape.
func TestTextsOutliveTheirShapes(t *testing.T) {
	for what, s := range goodShapes() {
		given := cloned(s)
		text := impl.ShapeText(given)
		before := strings.Clone(text)
		overwrite(given)
		if text != before {
			t.Error(what, "its text has changed")
		}
	}
}

// overwrite puts other points into all rows of a shape, and into the room behind them, and takes its rows away.
func overwrite(s impl.Shape) {
	for _, row := range s.Rings {
		row = row[:cap(row)]
		for i := range row {
			row[i] = pt(-77, 77)
		}
	}
	rows := s.Rings[:cap(s.Rings)]
	for i := range rows {
		rows[i] = nil
	}
}

// checkReadIsItsOwn: a call, which answers s each time, answers it in new memory, each row in its own.
func checkReadIsItsOwn(t *testing.T, what string, s impl.Shape, call func() impl.Shape) {
	t.Helper()
	first, second := call(), call()
	overwrite(first)
	if !impl.SameShape(second, s) {
		t.Error(what, "shares memory with an earlier answer")
	}
	if !impl.SameShape(call(), s) {
		t.Error(what, "is another one later")
	}
	// One row, and the room behind it, is none of another one's.
	for r := range second.Rings {
		one := call()
		overwrite(impl.Shape{Rings: [][]impl.Pt{one.Rings[r]}})
		one.Rings[r] = s.Rings[r]
		if !impl.SameShape(one, s) {
			t.Error(what, "has rows that share memory:", r)
		}
	}
}

func TestParsedShapesAreTheirOwn(t *testing.T) {
	for what, s := range goodShapes() {
		text := impl.ShapeText(s)
		checkReadIsItsOwn(t, what, s, func() impl.Shape {
			got, _, _ := impl.ParseShape(text)
			return got
		})
		if impl.ShapeText(s) != text {
			t.Error(what, "has another text later")
		}
	}
}

// What was refused, or asked for ahead, leaves nothing behind.
func TestTextCallsKeepNothing(t *testing.T) {
	list := []string{"", "POINT (1 2", "POINT (1 2) ", "POINT (1 2, 3 4)", "LINES ((0 0, 1 1), (2 2", "AREA ((0 0, 9 0))", "\xff", "LINE (1 1)"}
	for _, c := range writtenShapes() {
		list = append(list, c.text, c.text[:len(c.text)/2], c.text+"x")
	}
	tell := func(text string) string {
		s, code, place := impl.ParseShape(text)
		return fmt.Sprint(s, code, place, impl.ShapeText(s))
	}
	var first []string
	for _, text := range list {
		first = append(first, tell(text))
	}
	for i, text := range list {
		for _, other := range list {
			tell(other)
			if tell(text) != first[i] {
				t.Fatalf("%q behind %q: %s, not %s", text, other, tell(text), first[i])
			}
		}
	}
}

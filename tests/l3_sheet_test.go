package tests

import (
	"math"
	"slices"
	"strings"
	"testing"

	"loop.example/townland/impl"
)

// nineNames are in the order of their bytes, one more than a map may have.
func nineNames() []string {
	return []string{"a", "aa", "aab", "ab", "b", "ba", "m", "z", "zzzzzz"}
}

// otherNames are words that are none of nineNames.
func otherNames() []string { return []string{"aaa", "az", "kind", "zz", "zzzzzy"} }

// thingOf is a thing of a name; no two places have the same one.
func thingOf(name string, place int) impl.Feat {
	shapes := okShapes()
	f := copyFeat(impl.Feat{Id: name, Shape: shapes[place%len(shapes)]})
	for _, key := range someKeys()[:place%(impl.TagMost+1)] {
		f.Tags = append(f.Tags, tag(key, "oak"))
	}
	return f
}

func sheetOf(names ...string) []impl.Feat {
	var s []impl.Feat
	for i, name := range names {
		s = append(s, thingOf(name, i))
	}
	return s
}

// allSheets are the maps of every choice of at most SheetMost of nineNames.
func allSheets() [][]impl.Feat {
	var list [][]impl.Feat
	for set := range 1 << len(nineNames()) {
		var s []impl.Feat
		for i, name := range nineNames() {
			if set>>i&1 == 1 {
				s = append(s, thingOf(name, i))
			}
		}
		if len(s) <= impl.SheetMost {
			list = append(list, s)
		}
	}
	return list
}

// fewSheets are maps with no thing up to eight.
func fewSheets() [][]impl.Feat {
	var list [][]impl.Feat
	for n := range impl.SheetMost + 1 {
		list = append(list, sheetOf(nineNames()[:n]...), sheetOf(nineNames()[9-n:]...))
	}
	return list
}

func wrongOrders() [][]string {
	return [][]string{
		{"b", "a"}, {"aa", "a"}, {"b", "ab"}, {"zzzzzz", "z"},
		{"a", "a"}, {"a", "b", "a"}, {"a", "b", "b"}, {"a", "a", "b"},
		{"b", "a", "c"}, {"a", "c", "b"}, {"c", "b", "a"}, {"b", "c", "a"},
		{"a", "b", "c", "d", "e", "f", "h", "g"}, {"b", "a", "c", "d", "e", "f", "g", "h"},
		{"a", "b", "c", "d", "e", "f", "g", "g"}, {"a", "a", "c", "d", "e", "f", "g", "h"},
		{"a", "b", "c", "d", "e", "f", "g", "a"}, {"a", "a", "a", "a", "a", "a", "a", "a"},
		nineNames(),
		{"a", "a", "b", "c", "d", "e", "f", "g", "h"},
		{"a", "a", "a", "a", "a", "a", "a", "a", "a"},
	}
}

func wrongSheets() [][]impl.Feat {
	var list [][]impl.Feat
	for _, names := range wrongOrders() {
		list = append(list, sheetOf(names...))
	}
	same := thingOf("a", 1)
	list = append(list, []impl.Feat{same, same}, slices.Repeat([]impl.Feat{same}, 9), slices.Repeat([]impl.Feat{same}, 5000))
	for _, f := range wrongFeats() {
		list = append(list, []impl.Feat{f}, []impl.Feat{f, thingOf("b", 2)}, []impl.Feat{thingOf("b", 2), f})
	}
	for place := range impl.SheetMost {
		s := sheetOf(nineNames()[:impl.SheetMost]...)
		s[place].Tags = []impl.Tag{tag("a", "")}
		list = append(list, s)
	}
	return list
}

func copySheet(s []impl.Feat) []impl.Feat {
	var kept []impl.Feat
	for _, f := range s {
		kept = append(kept, copyFeat(f))
	}
	return kept
}

// equalSheets is written out here, so that SheetSame is not asked about itself.
func equalSheets(a []impl.Feat, b []impl.Feat) bool {
	if len(a) != len(b) {
		return false
	}
	for i := range a {
		if !equalFeats(a[i], b[i]) {
			return false
		}
	}
	return true
}

func TestSheetOk(t *testing.T) {
	for _, s := range allSheets() {
		if !impl.SheetOk(s) {
			t.Errorf("%v is refused", s)
		}
	}
	for _, s := range wrongSheets() {
		if impl.SheetOk(s) {
			t.Errorf("%v is taken", s[:min(len(s), 10)])
		}
	}
	if !impl.SheetOk(nil) || !impl.SheetOk([]impl.Feat{}) {
		t.Error("the map with nothing is refused")
	}
	for _, f := range okFeats() {
		if !impl.SheetOk([]impl.Feat{f}) {
			t.Errorf("%v alone is refused", f)
		}
	}
}

// Every row of four names, of which only those that ascend are in order.
func TestSheetOkOfAllOrders(t *testing.T) {
	names := []string{"a", "ab", "b", "c"}
	for n := range 256 {
		row := []string{names[n%4], names[n/4%4], names[n/16%4], names[n/64]}
		for size := range 5 {
			want := true
			for i := 1; i < size; i++ {
				want = want && row[i-1] < row[i]
			}
			if impl.SheetOk(sheetOf(row[:size]...)) != want {
				t.Errorf("%v: %v", row[:size], !want)
			}
		}
	}
}

func TestSheetSame(t *testing.T) {
	for _, s := range append(fewSheets(), wrongSheets()...) {
		if len(s) > 100 {
			continue
		}
		if !impl.SheetSame(s, copySheet(s)) {
			t.Errorf("%v is not the same as its copy", s)
		}
		more := append(copySheet(s), impl.Feat{})
		if impl.SheetSame(s, more) || impl.SheetSame(more, s) {
			t.Errorf("%v is the same as one with a thing more", s)
		}
	}
	for _, s := range fewSheets() {
		for i := range s {
			for _, g := range near(s[i]) {
				other := copySheet(s)
				other[i] = g
				if impl.SheetSame(s, other) || impl.SheetSame(other, s) {
					t.Errorf("%v is the same as %v", s, other)
				}
			}
		}
	}
	if !impl.SheetSame(nil, []impl.Feat{}) || !impl.SheetSame([]impl.Feat{}, nil) {
		t.Error("the empty list and the nil list are told apart")
	}
	a := []impl.Feat{thingOf("a", 0), thingOf("b", 1)}
	b := []impl.Feat{thingOf("b", 1), thingOf("a", 0)}
	if impl.SheetSame(a, b) {
		t.Error("the same things in another order are the same")
	}
}

func TestSheetNotOkTellsNothing(t *testing.T) {
	least, most := pt(math.MinInt, math.MinInt), pt(math.MaxInt, math.MaxInt)
	for i, s := range wrongSheets() {
		names := []string{"a", "b", "new", ""}
		for _, f := range s[:min(len(s), 9)] {
			names = append(names, f.Id)
		}
		for _, name := range names {
			if f, has := impl.SheetGet(s, name); has || !isNoFeat(f) {
				t.Errorf("SheetGet of wrong map %d at %q: %v %v", i, name, f, has)
			}
			if x, ok := impl.SheetPut(s, featOf(name, shapeOf(impl.ShapeDot, pt(0, 0)))); ok || len(x) != 0 {
				t.Errorf("SheetPut of wrong map %d with %q: %v %v", i, name, x, ok)
			}
			if x, ok := impl.SheetCut(s, name); ok || len(x) != 0 {
				t.Errorf("SheetCut of wrong map %d without %q: %v %v", i, name, x, ok)
			}
		}
		if l := impl.SheetIn(s, least, most); len(l) != 0 {
			t.Errorf("SheetIn of wrong map %d: %v", i, l)
		}
		if text := impl.SheetText(s); text != "" {
			t.Errorf("SheetText of wrong map %d: %q", i, text)
		}
	}
}

// What would be ok once something is put or cut is still not ok when it comes.
func TestSheetIsNotSetRight(t *testing.T) {
	bad := thingOf("b", 1)
	bad.Tags = []impl.Tag{tag("a", "")}
	sheets := [][]impl.Feat{
		{thingOf("a", 0), bad, thingOf("c", 2)},
		{thingOf("b", 1), thingOf("a", 0)},
		{thingOf("a", 0), thingOf("b", 1), thingOf("b", 1)},
		sheetOf(nineNames()...),
	}
	for _, s := range sheets {
		if x, ok := impl.SheetPut(s, thingOf("b", 5)); ok || len(x) != 0 {
			t.Errorf("SheetPut of %v: %v %v", s, x, ok)
		}
		if x, ok := impl.SheetCut(s, "b"); ok || len(x) != 0 {
			t.Errorf("SheetCut of %v: %v %v", s, x, ok)
		}
		if f, has := impl.SheetGet(s, "a"); has || !isNoFeat(f) {
			t.Errorf("SheetGet of %v: %v %v", s, f, has)
		}
	}
}

// placeOf looks for a name by walking the list; -1, if there is none.
func placeOf(s []impl.Feat, name string) int {
	return slices.IndexFunc(s, func(f impl.Feat) bool { return f.Id == name })
}

// withThing is what SheetPut is asked for, made by walking the list.
func withThing(s []impl.Feat, f impl.Feat) []impl.Feat {
	x := copySheet(s)
	if place := placeOf(x, f.Id); place >= 0 {
		x[place] = f
		return x
	}
	for i := range x {
		if x[i].Id > f.Id {
			return slices.Insert(x, i, f)
		}
	}
	return append(x, f)
}

func askedNames() []string { return append(nineNames(), otherNames()...) }

func TestSheetGet(t *testing.T) {
	for _, s := range allSheets() {
		for _, name := range append(askedNames(), wrongWords()...) {
			want := impl.Feat{}
			place := placeOf(s, name)
			if place >= 0 {
				want = s[place]
			}
			if f, has := impl.SheetGet(s, name); has != (place >= 0) || !equalFeats(f, want) {
				t.Errorf("%v at %q: %v %v", s, name, f, has)
			}
		}
	}
}

func TestSheetPut(t *testing.T) {
	for _, s := range allSheets() {
		for i, name := range askedNames() {
			for _, f := range []impl.Feat{thingOf(name, i), thingOf(name, i+7)} {
				want := withThing(s, f)
				wantOk := len(want) <= impl.SheetMost
				if !wantOk {
					want = nil
				}
				if x, ok := impl.SheetPut(s, f); ok != wantOk || !equalSheets(x, want) {
					t.Errorf("%v with %v: %v %v", s, f, x, ok)
				}
			}
		}
	}
	for _, s := range fewSheets() {
		for _, f := range wrongFeats() {
			if x, ok := impl.SheetPut(s, f); ok || len(x) != 0 {
				t.Errorf("%v with %q, which is not ok: %v %v", s, f.Id, x, ok)
			}
		}
	}
}

func TestSheetPutIsGotAndTurnsNothingElse(t *testing.T) {
	for _, s := range allSheets() {
		for i, name := range askedNames() {
			f := thingOf(name, i+5)
			x, ok := impl.SheetPut(s, f)
			if !ok {
				continue
			}
			if g, has := impl.SheetGet(x, name); !has || !equalFeats(g, f) {
				t.Errorf("%v: %v is put, and got as %v %v", s, f, g, has)
			}
			for _, other := range askedNames() {
				was, had := impl.SheetGet(s, other)
				if now, has := impl.SheetGet(x, other); other != name && (has != had || !equalFeats(now, was)) {
					t.Errorf("%v with %q put: %q is %v %v", s, name, other, now, has)
				}
			}
			without := func(g impl.Feat) bool { return g.Id == name }
			if !equalSheets(slices.DeleteFunc(copySheet(x), without), slices.DeleteFunc(copySheet(s), without)) {
				t.Errorf("%v with %q put: the others are turned in %v", s, name, x)
			}
		}
	}
}

func TestSheetCut(t *testing.T) {
	for _, s := range allSheets() {
		for _, name := range append(askedNames(), wrongWords()...) {
			var want []impl.Feat
			place := placeOf(s, name)
			if place >= 0 {
				want = slices.Delete(copySheet(s), place, place+1)
			}
			if x, ok := impl.SheetCut(s, name); ok != (place >= 0) || !equalSheets(x, want) {
				t.Errorf("%v without %q: %v %v", s, name, x, ok)
			}
		}
	}
}

func readSheet(t *testing.T, text string) []impl.Feat {
	t.Helper()
	s, ok := impl.SheetRead(text)
	if !ok {
		t.Fatalf("%q is not read", text)
	}
	return s
}

func readFeat(t *testing.T, text string) impl.Feat {
	t.Helper()
	f, ok := impl.FeatRead(text)
	if !ok {
		t.Fatalf("%q is not read", text)
	}
	return f
}

func TestSheetLiterals(t *testing.T) {
	s := readSheet(t, "b dot 0,0\nd line 1,1 3,3 kind=road\n")
	puts := []struct{ thing, want string }{
		{"a dot 9,9", "a dot 9,9\nb dot 0,0\nd line 1,1 3,3 kind=road\n"},
		{"az dot 9,9", "az dot 9,9\nb dot 0,0\nd line 1,1 3,3 kind=road\n"},
		{"b dot 9,9 a=b", "b dot 9,9 a=b\nd line 1,1 3,3 kind=road\n"},
		{"ba dot 9,9", "b dot 0,0\nba dot 9,9\nd line 1,1 3,3 kind=road\n"},
		{"c dot 9,9", "b dot 0,0\nc dot 9,9\nd line 1,1 3,3 kind=road\n"},
		{"d dot 9,9", "b dot 0,0\nd dot 9,9\n"},
		{"d line 1,1 3,3 kind=road", "b dot 0,0\nd line 1,1 3,3 kind=road\n"},
		{"da dot 9,9", "b dot 0,0\nd line 1,1 3,3 kind=road\nda dot 9,9\n"},
		{"z dot 9,9", "b dot 0,0\nd line 1,1 3,3 kind=road\nz dot 9,9\n"},
	}
	for _, p := range puts {
		if x, ok := impl.SheetPut(s, readFeat(t, p.thing)); !ok || impl.SheetText(x) != p.want {
			t.Errorf("with %q: %q %v", p.thing, impl.SheetText(x), ok)
		}
	}
	if x, ok := impl.SheetCut(s, "b"); !ok || impl.SheetText(x) != "d line 1,1 3,3 kind=road\n" {
		t.Errorf("without b: %q %v", impl.SheetText(x), ok)
	}
	if x, ok := impl.SheetCut(s, "d"); !ok || impl.SheetText(x) != "b dot 0,0\n" {
		t.Errorf("without d: %q %v", impl.SheetText(x), ok)
	}
	if f, has := impl.SheetGet(s, "d"); !has || impl.FeatText(f) != "d line 1,1 3,3 kind=road" {
		t.Errorf("d: %v %v", f, has)
	}
	one, ok := impl.SheetPut(nil, readFeat(t, "a dot 0,0"))
	if !ok || impl.SheetText(one) != "a dot 0,0\n" {
		t.Errorf("one thing put on the map with nothing: %v %v", one, ok)
	}
	if none, ok := impl.SheetCut(one, "a"); !ok || len(none) != 0 {
		t.Errorf("the only thing cut: %v %v", none, ok)
	}
}

func TestSheetMostIsMetExactly(t *testing.T) {
	var s []impl.Feat
	for i, name := range nineNames()[:impl.SheetMost] {
		x, ok := impl.SheetPut(s, thingOf(name, i))
		if !ok || len(x) != i+1 {
			t.Fatalf("thing %d is refused: %v", i+1, x)
		}
		s = x
	}
	for i, name := range append(otherNames(), "zzzzzz") {
		if x, ok := impl.SheetPut(s, thingOf(name, i)); ok || len(x) != 0 {
			t.Errorf("a ninth thing, %q, is taken: %v", name, x)
		}
	}
	for i, name := range nineNames()[:impl.SheetMost] {
		f := thingOf(name, i+1)
		x, ok := impl.SheetPut(s, f)
		if !ok || len(x) != impl.SheetMost || !equalFeats(x[i], f) {
			t.Errorf("a thing in the place of %q of eight: %v %v", name, x, ok)
		}
		if y, ok := impl.SheetCut(s, name); !ok || len(y) != impl.SheetMost-1 || placeOf(y, name) >= 0 {
			t.Errorf("%q of eight is cut: %v %v", name, y, ok)
		}
	}
}

func TestSheetInLiterals(t *testing.T) {
	s := readSheet(t, "a line 2,3 6,8\n")
	cases := []struct {
		what string
		a, b impl.Pt
		in   bool
	}{
		{"inside", pt(3, 4), pt(5, 6), true},
		{"round it", pt(0, 0), pt(9, 9), true},
		{"the same", pt(2, 3), pt(6, 8), true},
		{"a place in it, but on no point", pt(6, 3), pt(6, 3), true},
		{"left side", pt(0, 4), pt(2, 6), true},
		{"just left", pt(0, 4), pt(1, 6), false},
		{"right side", pt(6, 4), pt(9, 6), true},
		{"just right", pt(7, 4), pt(9, 6), false},
		{"lower side", pt(3, 0), pt(5, 3), true},
		{"just below", pt(3, 0), pt(5, 2), false},
		{"upper side", pt(3, 8), pt(5, 9), true},
		{"just above", pt(3, 9), pt(5, 9), false},
		{"left lower corner", pt(0, 0), pt(2, 3), true},
		{"just left of it", pt(0, 0), pt(1, 3), false},
		{"just below it", pt(0, 0), pt(2, 2), false},
		{"right lower corner", pt(6, 0), pt(9, 3), true},
		{"just right of it", pt(7, 0), pt(9, 3), false},
		{"just below it", pt(6, 0), pt(9, 2), false},
		{"left upper corner", pt(0, 8), pt(2, 9), true},
		{"just left of it", pt(0, 8), pt(1, 9), false},
		{"just above it", pt(0, 9), pt(2, 9), false},
		{"right upper corner", pt(6, 8), pt(9, 9), true},
		{"just right of it", pt(7, 8), pt(9, 9), false},
		{"just above it", pt(6, 9), pt(9, 9), false},
		{"a above b, both in it", pt(5, 7), pt(3, 4), true},
		{"a above b, at the corners", pt(6, 8), pt(2, 3), true},
		{"a right of b alone", pt(6, 4), pt(2, 7), true},
		{"a above b one way alone", pt(3, 8), pt(5, 3), true},
		{"a above b, a just right", pt(7, 8), pt(2, 3), false},
		{"a above b, a just above", pt(6, 9), pt(2, 3), false},
		{"a above b, b just left", pt(6, 8), pt(1, 3), false},
		{"a above b, b just below", pt(6, 8), pt(2, 2), false},
		{"a above b, all round it", pt(9, 9), pt(0, 0), false},
		{"everywhere", pt(math.MinInt, math.MinInt), pt(math.MaxInt, math.MaxInt), true},
		{"nowhere", pt(math.MaxInt, math.MaxInt), pt(math.MinInt, math.MinInt), false},
		{"far left", pt(math.MinInt, math.MinInt), pt(math.MinInt, math.MaxInt), false},
		{"far up", pt(math.MinInt, math.MaxInt), pt(math.MaxInt, math.MaxInt), false},
	}
	for _, c := range cases {
		l := impl.SheetIn(s, c.a, c.b)
		if c.in && !slices.Equal(l, []string{"a"}) || !c.in && len(l) != 0 {
			t.Errorf("%s, %v %v: %v", c.what, c.a, c.b, l)
		}
	}
}

// withinBox says whether a place of the box of a thing is one of the box from a to b, by walking all of them.
func withinBox(s impl.Shape, a impl.Pt, b impl.Pt) bool {
	low, high := impl.ShapeBox(s)
	for x := low.X; x <= high.X; x++ {
		for y := low.Y; y <= high.Y; y++ {
			if a.X <= x && x <= b.X && a.Y <= y && y <= b.Y {
				return true
			}
		}
	}
	return false
}

func TestSheetInOfAllSmallBoxes(t *testing.T) {
	s := readSheet(t, "a dot 0,0\naa line 2,1 -1,3\nb ring 1,-1 3,-1 3,2\nba line -2,-2 -2,2\nm line 2,3 3,3\nz line 3,-2 -2,3 0,0\n")
	for n := range 7 * 7 * 7 * 7 {
		a, b := pt(n%7-3, n/7%7-3), pt(n/49%7-3, n/343-3)
		if a.X > b.X || a.Y > b.Y {
			continue
		}
		var want []string
		for _, f := range s {
			if withinBox(f.Shape, a, b) {
				want = append(want, f.Id)
			}
		}
		if l := impl.SheetIn(s, a, b); !slices.Equal(l, want) {
			t.Errorf("%v %v: %v, not %v", a, b, l, want)
		}
	}
}

func TestSheetInTellsAllInOrder(t *testing.T) {
	least, most := pt(-impl.PtMost, -impl.PtMost), pt(impl.PtMost, impl.PtMost)
	for _, s := range allSheets() {
		var want []string
		for _, f := range s {
			want = append(want, f.Id)
		}
		if l := impl.SheetIn(s, least, most); !slices.Equal(l, want) {
			t.Errorf("%v: %v", s, l)
		}
	}
}

func TestSheetTextLiterals(t *testing.T) {
	cases := []struct {
		s    []impl.Feat
		want string
	}{
		{nil, ""},
		{[]impl.Feat{}, ""},
		{[]impl.Feat{featOf("b", shapeOf(impl.ShapeDot, pt(2, -5)))}, "b dot 2,-5\n"},
		{[]impl.Feat{
			featOf("a", shapeOf(impl.ShapeLine, pt(0, 0), pt(4, 4)), tag("kind", "road"), tag("name", "oak")),
			featOf("aa", shapeOf(impl.ShapeRing, pt(0, 0), pt(4, 0), pt(4, 4))),
			featOf("b", shapeOf(impl.ShapeDot, pt(2, 5)), tag("a", "b")),
		}, "a line 0,0 4,4 kind=road name=oak\naa ring 0,0 4,0 4,4\nb dot 2,5 a=b\n"},
	}
	for _, c := range cases {
		if got := impl.SheetText(c.s); got != c.want {
			t.Errorf("%v: %q", c.s, got)
		}
		if got, ok := impl.SheetRead(c.want); !ok || !equalSheets(got, c.s) {
			t.Errorf("%q: %v %v", c.want, got, ok)
		}
	}
}

func TestSheetIsReadFromItsText(t *testing.T) {
	for _, s := range allSheets() {
		if got, ok := impl.SheetRead(impl.SheetText(s)); !ok || !equalSheets(got, s) {
			t.Errorf("%v is read as %v %v", s, got, ok)
		}
	}
	for _, f := range okFeats() {
		g := copyFeat(f)
		g.Id = "m"
		for _, x := range [][]impl.Feat{{f}, {thingOf("a", 3), g, thingOf("z", 4)}} {
			if got, ok := impl.SheetRead(impl.SheetText(x)); !ok || !equalSheets(got, x) {
				t.Errorf("%v is read as %v %v", x, got, ok)
			}
		}
	}
}

// longestText is that of a map with eight things, each as long as it can be.
func longestText() string {
	text := ""
	for _, letter := range "abcdefgh" {
		text += "zzzzz" + string(letter) + " ring" + strings.Repeat(" -1000,-1000 -1000,-999", 3) +
			" aaaaaa=zzzzzz bbbbbb=zzzzzz cccccc=zzzzzz dddddd=zzzzzz\n"
	}
	return text
}

func TestSheetReadRefuses(t *testing.T) {
	longest := longestText()
	nine := strings.Join(nineNames(), " dot 0,0\n") + " dot 0,0\n"
	wrong := []string{
		"\n", "\n\n", " ", " \n", "a", "a\n", "dot 0,0\n", "a dot\n",
		"a dot 0,0", "\na dot 0,0\n", "a dot 0,0\n\n", "a dot 0,0\n ", "a dot 0,0\n \n", "a dot 0,0\nb",
		"a dot 0,0\nb dot 0,0", "a dot 0,0\n\nb dot 0,0\n", "a dot 0,0\nb dot 0,0\n\n", "\na dot 0,0\nb dot 0,0\n",
		"a dot 0,0b dot 0,0\n", "a dot 0,0 b dot 0,0\n", "a dot 0,0\rb dot 0,0\n",
		"a dot 0,0\r\n", "a dot 0,0\n\r", "a dot 0,0\r\nb dot 0,0\r\n", "a dot 0,0\x00\n", "a dot 0,0\n\x00", "\xffa dot 0,0\n",
		" a dot 0,0\n", "a dot 0,0 \n", "a  dot 0,0\n", "a dot 0,0\n b dot 0,0\n", "a\ndot 0,0\n", "a dot\n0,0\n",
		"b dot 0,0\na dot 0,0\n", "aa dot 0,0\na dot 0,0\n", "b dot 0,0\nab dot 0,0\n",
		"a dot 0,0\na dot 0,0\n", "a dot 0,0\na dot 1,1\n", "a dot 0,0\nb dot 0,0\na dot 0,0\n", "a dot 0,0\nc dot 0,0\nb dot 0,0\n",
		"A dot 0,0\n", "a dot 0,0\nB dot 0,0\n", "aaaaaaa dot 0,0\n", "a fly 0,0\n", "a dot 1001,0\n", "a dot 01,0\n",
		"a dot 0,0 b=a a=b\n", "a dot 0,0\nb dot 0,0 a=\n", "a dot 0,0\nb line 0,0\nc dot 0,0\n",
		"a dot 0,0\nno thing\nc dot 0,0\n", "no thing\nb dot 0,0\n", "a dot 0,0\nno thing\n",
		nine, nine[:len(nine)-1], longest[:len(longest)-1], longest + "\n", "\n" + longest, longest + "zzzzzz dot 0,0\n",
		longest + strings.Repeat(" ", 2000-len(longest)), longest + strings.Repeat("\n", 2000-len(longest)),
		longest + strings.Repeat(" ", 2001-len(longest)), longest + strings.Repeat("\n", 2001-len(longest)),
		longest + strings.Repeat("z", 1999-len(longest)) + "\n", longest + strings.Repeat("z", 2000-len(longest)) + "\n",
		strings.Repeat("a dot 0,0\n", 200), strings.Repeat("a dot 0,0\n", 200) + "b", strings.Repeat("a dot 0,0\n", 5000),
		strings.Repeat("\n", 2000), strings.Repeat("\n", 2001), strings.Repeat("a", 2000), strings.Repeat("a", 50000),
	}
	for _, text := range wrong {
		if got, ok := impl.SheetRead(text); ok || len(got) != 0 {
			t.Errorf("%q: %v %v", text, got, ok)
		}
	}
	if got, ok := impl.SheetRead(longest); !ok || len(got) != impl.SheetMost || impl.SheetText(got) != longest {
		t.Errorf("%q: %v %v", longest, got, ok)
	}
	eight := strings.TrimSuffix(nine, "zzzzzz dot 0,0\n")
	if got, ok := impl.SheetRead(eight); !ok || impl.SheetText(got) != eight {
		t.Errorf("%q: %v %v", eight, got, ok)
	}
}

// The empty text is that of the map with nothing.
func TestSheetReadOfTheEmptyText(t *testing.T) {
	if got, ok := impl.SheetRead(""); !ok || len(got) != 0 {
		t.Errorf("%v %v", got, ok)
	}
}

// Whatever bytes a text has, it is read only if it is the text of what is read.
func TestSheetReadOfChangedTexts(t *testing.T) {
	asked := func(text string) {
		got, ok := impl.SheetRead(text)
		if ok && (!impl.SheetOk(got) || impl.SheetText(got) != text) || !ok && len(got) != 0 {
			t.Fatalf("%q: %v %v", text, got, ok)
		}
	}
	for _, s := range fewSheets() {
		text := impl.SheetText(s)
		for i := range len(text) + 1 {
			for _, b := range []byte("0-, =az`{\n\r\x00\xff") {
				asked(text[:i] + string([]byte{b}) + text[i:])
			}
			asked(text[:i])
			asked(text[i:])
			if i < len(text) {
				asked(text[:i] + text[i+1:])
			}
		}
		lines := strings.SplitAfter(text, "\n")
		for i := range lines {
			for k := range lines {
				swapped := slices.Clone(lines)
				swapped[i], swapped[k] = swapped[k], swapped[i]
				asked(strings.Join(swapped, ""))
				swapped[i] = lines[i]
				asked(strings.Join(swapped, ""))
			}
		}
	}
}

// roomySheet is a map whose things, points and tags all lie ahead of other ones; the whole list of things comes
// with it, in which the things behind the map's end are of it too.
func roomySheet(s []impl.Feat) ([]impl.Feat, []impl.Feat) {
	var all []impl.Feat
	for _, f := range append(copySheet(s), thingOf("behind", 4), thingOf("far", 9)) {
		g, _, _ := roomyFeat(f)
		all = append(all, g)
	}
	return all[:len(s)], all
}

// roomOf is things with all that is behind the ends of their lists, in new memory.
func roomOf(s []impl.Feat) []impl.Feat {
	var room []impl.Feat
	for _, f := range s {
		f.Shape.Pts = f.Shape.Pts[:cap(f.Shape.Pts)]
		f.Tags = f.Tags[:cap(f.Tags)]
		room = append(room, copyFeat(f))
	}
	return room
}

// overwriteSheet writes over all that can be reached of a map, spare room included.
func overwriteSheet(s []impl.Feat) {
	room := s[:cap(s)]
	for i := range room {
		overwrite(room[i].Shape)
		overwriteTags(room[i])
		room[i] = impl.Feat{Id: "over"}
	}
}

// sheetAnswers are all answers that hold things: those of one call are a list, and a thing is a list of one.
func sheetAnswers(s []impl.Feat, f impl.Feat) [][]impl.Feat {
	put, _ := impl.SheetPut(s, f)
	answers := [][]impl.Feat{put}
	for _, name := range append(nineNames(), f.Id) {
		cut, _ := impl.SheetCut(s, name)
		got, _ := impl.SheetGet(s, name)
		answers = append(answers, cut, []impl.Feat{got})
	}
	return answers
}

func TestSheetLeavesArgumentsAlone(t *testing.T) {
	for i, s := range append(fewSheets(), wrongSheets()...) {
		for _, f := range []impl.Feat{thingOf("a", 6), thingOf("aaa", 9), thingOf("zzzzzz", 8), {Id: "Wrong"}} {
			if len(s) > 100 {
				continue
			}
			given, all := roomySheet(s)
			thing, pts, tags := roomyFeat(f)
			was, ptsWere, tagsWere := roomOf(all), slices.Clone(pts), slices.Clone(tags)
			sheetAnswers(given, thing)
			impl.SheetOk(given)
			impl.SheetSame(given, given)
			impl.SheetIn(given, pt(-9, -9), pt(9, 9))
			impl.SheetText(given)
			if !equalSheets(roomOf(all), was) || !slices.Equal(pts, ptsWere) || !slices.Equal(tags, tagsWere) {
				t.Fatalf("a call has written into map %d, or %v", i, f)
			}
		}
	}
}

func TestSheetAnswersShareNothingWithArguments(t *testing.T) {
	for _, s := range fewSheets() {
		for _, f := range []impl.Feat{thingOf("a", 6), thingOf("aaa", 9), thingOf("zzzzzz", 8)} {
			for n := range sheetAnswers(s, f) {
				given, all := roomySheet(s)
				thing, pts, tags := roomyFeat(f)
				was, ptsWere, tagsWere := roomOf(all), slices.Clone(pts), slices.Clone(tags)
				overwriteSheet(sheetAnswers(given, thing)[n])
				if !equalSheets(roomOf(all), was) || !slices.Equal(pts, ptsWere) || !slices.Equal(tags, tagsWere) {
					t.Fatalf("answer %d of %v and %v shares memory with them", n, s, f)
				}
				answer := sheetAnswers(given, thing)[n]
				kept := copySheet(answer)
				overwriteSheet(all)
				overwrite(thing.Shape)
				overwriteTags(thing)
				if !equalSheets(answer, kept) {
					t.Fatalf("answer %d of %v and %v shares memory with them", n, s, f)
				}
			}
		}
	}
}

// ownLists fails, if what is written over the lists of one thing of an answer is to be seen in another thing.
func ownLists(t *testing.T, what string, answer func() []impl.Feat) {
	t.Helper()
	kept := copySheet(answer())
	if len(kept) < 3 {
		t.Fatalf("%s: %v", what, kept)
	}
	for i := range kept {
		x := answer()
		overwrite(x[i].Shape)
		overwriteTags(x[i])
		for k := range kept {
			if k != i && !equalFeats(x[k], kept[k]) {
				t.Errorf("%s: things %d and %d share memory", what, i, k)
			}
		}
	}
}

// sharedThings are things whose points lie in one piece of memory, and their tags in another one.
func sharedThings() []impl.Feat {
	pts := zigzag(6)
	tags := []impl.Tag{tag("a", "x"), tag("b", "x"), tag("c", "x"), tag("d", "x")}
	return []impl.Feat{
		featOf("a", shapeOf(impl.ShapeLine, pts...), tags...),
		featOf("b", shapeOf(impl.ShapeLine, pts[:3]...), tags[:2]...),
		featOf("c", shapeOf(impl.ShapeRing, pts[3:]...), tags[2:]...),
		featOf("d", shapeOf(impl.ShapeDot, pts[2:3]...), tags[1:3]...),
		featOf("e", shapeOf(impl.ShapeLine, pts...), tags...),
	}
}

// The things that are handed in may lie in one piece of memory; those that are answered may not.
func TestSheetListsOfAnAnswerAreEachItsOwn(t *testing.T) {
	ownLists(t, "put", func() []impl.Feat {
		s := sharedThings()
		x, _ := impl.SheetPut(s[:4], s[4])
		return x
	})
	ownLists(t, "put in a place", func() []impl.Feat {
		s := sharedThings()
		s[4].Id = "b"
		x, _ := impl.SheetPut(s[:4], s[4])
		return x
	})
	ownLists(t, "cut", func() []impl.Feat {
		x, _ := impl.SheetCut(sharedThings(), "b")
		return x
	})
	ownLists(t, "read", func() []impl.Feat {
		x, _ := impl.SheetRead(impl.SheetText(sharedThings()))
		return x
	})
}

func TestSheetAnswersAreNewEachTime(t *testing.T) {
	text := "a line 0,0 1,1 kind=road\nb dot 2,2 a=b\n"
	overwriteSheet(readSheet(t, text))
	s := readSheet(t, text)
	if impl.SheetText(s) != text {
		t.Errorf("what was read once comes again as it was turned: %v", s)
	}
	names := impl.SheetIn(s, pt(0, 0), pt(9, 9))
	for i := range names[:cap(names)] {
		names[:cap(names)][i] = "over"
	}
	if l := impl.SheetIn(s, pt(0, 0), pt(9, 9)); !slices.Equal(l, []string{"a", "b"}) || impl.SheetText(s) != text {
		t.Errorf("what was told once comes again as it was turned: %v %v", l, s)
	}
	x, _ := impl.SheetPut(s, s[0])
	overwriteSheet(x)
	if impl.SheetText(s) != text {
		t.Errorf("a map with its own thing put shares memory with it: %v", s)
	}
}

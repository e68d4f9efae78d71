package tests

import (
	"slices"
	"strings"
	"testing"

	"loop.example/townland/impl"
)

func came(f impl.Feat) impl.Change { return impl.Change{Id: f.Id, Has: true, Now: f} }

func went(f impl.Feat) impl.Change { return impl.Change{Id: f.Id, Had: true, Was: f} }

func turned(was impl.Feat, now impl.Feat) impl.Change {
	return impl.Change{Id: was.Id, Had: true, Was: was, Has: true, Now: now}
}

func copyDiff(d []impl.Change) []impl.Change {
	var kept []impl.Change
	for _, c := range d {
		kept = append(kept, impl.Change{Id: c.Id, Had: c.Had, Was: copyFeat(c.Was), Has: c.Has, Now: copyFeat(c.Now)})
	}
	return kept
}

func equalDiffs(a []impl.Change, b []impl.Change) bool {
	return slices.EqualFunc(a, b, func(c impl.Change, e impl.Change) bool {
		return c.Id == e.Id && c.Had == e.Had && equalFeats(c.Was, e.Was) && c.Has == e.Has && equalFeats(c.Now, e.Now)
	})
}

// manyNames are that many words, in the order of their bytes.
func manyNames(n int) []string {
	var names []string
	for i := range n {
		names = append(names, string(rune('a'+i/6))+strings.Repeat("m", i%6))
	}
	return names
}

// comeAll are things of these names that come.
func comeAll(names ...string) []impl.Change {
	var d []impl.Change
	for i, name := range names {
		d = append(d, came(thingOf(name, i)))
	}
	return d
}

// goAll are the things of comeAll that go.
func goAll(names ...string) []impl.Change {
	var d []impl.Change
	for i, name := range names {
		d = append(d, went(thingOf(name, i)))
	}
	return d
}

// mixedDiff has of each of these names, in turn, a thing that comes, one that goes, and one that is turned.
func mixedDiff(names ...string) []impl.Change {
	var d []impl.Change
	for i, name := range names {
		f, g := thingOf(name, i), thingOf(name, i+1)
		d = append(d, []impl.Change{came(f), went(f), turned(f, g)}[i%3])
	}
	return d
}

func okDiffs() [][]impl.Change {
	list := [][]impl.Change{nil, {}}
	for n := range 17 {
		names := manyNames(n)
		list = append(list, comeAll(names...), goAll(names...), mixedDiff(names...))
	}
	for _, f := range okFeats() {
		list = append(list, []impl.Change{came(f)}, []impl.Change{went(f)})
	}
	// Nothing is nothing, whether its lists are empty or nil.
	bare := impl.Feat{Shape: impl.Shape{Pts: []impl.Pt{}}, Tags: []impl.Tag{}}
	f := thingOf("a", 1)
	return append(list,
		[]impl.Change{{Id: "a", Had: true, Was: f, Now: bare}},
		[]impl.Change{{Id: "a", Was: bare, Has: true, Now: f}})
}

// wrongChanges are single ones; they stay wrong beside any others.
func wrongChanges() []impl.Change {
	f, g, other := thingOf("a", 1), thingOf("a", 2), thingOf("b", 2)
	list := []impl.Change{
		{}, {Id: "a"}, {Id: "a", Was: f}, {Id: "a", Now: f}, {Id: "a", Was: f, Now: g}, {Id: "a", Was: f, Now: f},
		turned(f, f), turned(f, copyFeat(f)),
		{Id: "a", Had: true, Was: f, Now: g}, {Id: "a", Was: f, Has: true, Now: g},
		{Id: "a", Had: true, Was: f, Now: f}, {Id: "a", Was: f, Has: true, Now: f},
		{Id: "a", Had: true}, {Id: "a", Has: true}, {Id: "a", Had: true, Has: true},
		{Id: "a", Had: true, Was: f, Has: true}, {Id: "a", Had: true, Has: true, Now: f},
		{Id: "a", Had: true, Now: f}, {Id: "a", Has: true, Was: f},
		{Id: "a", Had: true, Was: other}, {Id: "a", Has: true, Now: other},
		{Id: "a", Had: true, Was: f, Has: true, Now: other}, {Id: "a", Had: true, Was: other, Has: true, Now: f},
		{Id: "a", Had: true, Was: other, Has: true, Now: thingOf("b", 3)},
		{Id: "", Had: true, Was: f}, {Id: "", Has: true, Now: f}, {Id: "b", Had: true, Was: f, Has: true, Now: g},
	}
	// What stands where there is nothing is wrong, also if it is the least that can be told of a thing.
	for _, left := range []impl.Feat{
		{Id: "a"}, {Shape: impl.Shape{Kind: impl.ShapeDot}}, {Shape: impl.Shape{Pts: []impl.Pt{{}}}}, {Tags: []impl.Tag{{}}},
	} {
		list = append(list, impl.Change{Id: "a", Had: true, Was: f, Now: left}, impl.Change{Id: "a", Was: left, Has: true, Now: f},
			impl.Change{Id: "a", Was: left}, impl.Change{Id: "a", Now: left})
	}
	for _, bad := range wrongFeats() {
		good := impl.Feat{Id: bad.Id, Shape: f.Shape}
		list = append(list, came(bad), went(bad), turned(bad, good), turned(good, bad))
	}
	return list
}

func wrongDiffs() [][]impl.Change {
	var list [][]impl.Change
	for _, names := range wrongOrders() {
		if !slices.Equal(names, nineNames()) {
			list = append(list, comeAll(names...), goAll(names...), mixedDiff(names...))
		}
	}
	f, g := thingOf("a", 1), thingOf("a", 2)
	list = append(list, []impl.Change{came(f), came(f)}, []impl.Change{went(f), came(g)}, []impl.Change{came(f), turned(f, g)},
		slices.Repeat([]impl.Change{came(f)}, 17), slices.Repeat([]impl.Change{came(f)}, 5000),
		comeAll(manyNames(17)...), goAll(manyNames(17)...), mixedDiff(manyNames(17)...), comeAll(manyNames(50)...))
	for _, c := range wrongChanges() {
		list = append(list, []impl.Change{c}, []impl.Change{c, came(thingOf("m", 2))}, []impl.Change{came(thingOf("a", 2)), c})
	}
	for place := range 16 {
		d := mixedDiff(manyNames(16)...)
		d[place].Had, d[place].Has = false, false
		e := mixedDiff(manyNames(16)...)
		e[place] = turned(thingOf(e[place].Id, 3), thingOf(e[place].Id, 3))
		list = append(list, d, e)
	}
	return list
}

func TestDiffOk(t *testing.T) {
	for _, d := range okDiffs() {
		if !impl.DiffOk(d) {
			t.Errorf("%v is refused", d)
		}
	}
	for _, d := range wrongDiffs() {
		if impl.DiffOk(d) {
			t.Errorf("%v is taken", d[:min(len(d), 20)])
		}
	}
	for _, f := range okFeats() {
		for _, g := range near(f) {
			if impl.DiffOk([]impl.Change{turned(f, g)}) != (g.Id == f.Id && impl.FeatOk(g)) {
				t.Errorf("%v turned to %v", f, g)
			}
		}
	}
}

// Every row of four names, of which only those that ascend are in order.
func TestDiffOkOfAllOrders(t *testing.T) {
	names := []string{"a", "ab", "b", "c"}
	for n := range 256 {
		row := []string{names[n%4], names[n/4%4], names[n/16%4], names[n/64]}
		for size := range 5 {
			want := true
			for i := 1; i < size; i++ {
				want = want && row[i-1] < row[i]
			}
			if impl.DiffOk(mixedDiff(row[:size]...)) != want {
				t.Errorf("%v: %v", row[:size], !want)
			}
		}
	}
}

func TestDiffOkMeetsItsBoundExactly(t *testing.T) {
	for _, diffOfAll := range []func(...string) []impl.Change{comeAll, goAll, mixedDiff} {
		if !impl.DiffOk(diffOfAll(manyNames(2 * impl.SheetMost)...)) {
			t.Error("16 changes are refused")
		}
		if impl.DiffOk(diffOfAll(manyNames(2*impl.SheetMost + 1)...)) {
			t.Error("17 changes are taken")
		}
	}
}

// changesOfName are all changes of a name with no thing or one of two, and nothing turned, with Had and Has
// both false.
func changesOfName(name string) []impl.Change {
	x, y := thingOf(name, 3), thingOf(name, 4)
	return []impl.Change{{}, came(x), came(y), went(x), went(y), turned(x, y), turned(y, x)}
}

// smallDiffs are all rows of such changes of these names.
func smallDiffs(names ...string) [][]impl.Change {
	list := [][]impl.Change{nil}
	for _, name := range names {
		var longer [][]impl.Change
		for _, d := range list {
			for _, c := range changesOfName(name) {
				if !c.Had && !c.Has {
					longer = append(longer, d)
				} else {
					longer = append(longer, append(copyDiff(d), c))
				}
			}
		}
		list = longer
	}
	return list
}

// smallSheets are all maps with, of each of these names, no thing or one of two.
func smallSheets(names ...string) [][]impl.Feat {
	list := [][]impl.Feat{nil}
	for _, name := range names {
		var longer [][]impl.Feat
		for _, s := range list {
			longer = append(longer, s, append(copySheet(s), thingOf(name, 3)), append(copySheet(s), thingOf(name, 4)))
		}
		list = longer
	}
	return list
}

// thingAt walks a list; nothing and false, if there is none of that name.
func thingAt(s []impl.Feat, name string) (impl.Feat, bool) {
	if place := placeOf(s, name); place >= 0 {
		return s[place], true
	}
	return impl.Feat{}, false
}

// namesOf are the names of all these maps, in order, each once.
func namesOf(sheets ...[]impl.Feat) []string {
	var names []string
	for _, s := range sheets {
		for _, f := range s {
			names = append(names, f.Id)
		}
	}
	slices.Sort(names)
	return slices.Compact(names)
}

// wantedDiff is what DiffOf is asked for, made by walking the lists.
func wantedDiff(a []impl.Feat, b []impl.Feat) []impl.Change {
	var d []impl.Change
	for _, name := range namesOf(a, b) {
		was, had := thingAt(a, name)
		now, has := thingAt(b, name)
		if had != has || !equalFeats(was, now) {
			d = append(d, impl.Change{Id: name, Had: had, Was: was, Has: has, Now: now})
		}
	}
	return d
}

// someSheets are maps with no thing up to eight, of the same names, of others, and with other things.
func someSheets() [][]impl.Feat {
	list := append(fewSheets(), smallSheets("aa", "b")...)
	for n := range impl.SheetMost + 1 {
		var s []impl.Feat
		for i, name := range nineNames()[:n] {
			s = append(s, thingOf(name, i+i%2))
		}
		list = append(list, s, sheetOf(manyNames(17)[17-n:]...))
	}
	return list
}

func TestDiffOf(t *testing.T) {
	for _, sheets := range [][][]impl.Feat{smallSheets("a", "ab", "b", "zzzzzz"), someSheets()} {
		for _, a := range sheets {
			for _, b := range sheets {
				d := impl.DiffOf(a, b)
				if !equalDiffs(d, wantedDiff(a, b)) || !impl.DiffOk(d) {
					t.Fatalf("%v to %v: %v", a, b, d)
				}
			}
		}
	}
}

// A thing that is another one in any part alone is turned.
func TestDiffOfTellsEveryPart(t *testing.T) {
	for _, f := range okFeats() {
		for _, g := range near(f) {
			if !impl.FeatOk(g) || g.Id != f.Id {
				continue
			}
			d := impl.DiffOf([]impl.Feat{f}, []impl.Feat{g})
			if !equalDiffs(d, []impl.Change{turned(f, g)}) {
				t.Errorf("%v to %v: %v", f, g, d)
			}
		}
		if d := impl.DiffOf([]impl.Feat{f}, []impl.Feat{copyFeat(f)}); len(d) != 0 {
			t.Errorf("%v to its copy: %v", f, d)
		}
	}
}

func TestDiffLiterals(t *testing.T) {
	cases := []struct{ a, b, want string }{
		{"", "", ""},
		{"a dot 0,0\n", "a dot 0,0\n", ""},
		{"", "a dot 0,0\n", "a: - > a dot 0,0\n"},
		{"a dot 0,0\n", "", "a: a dot 0,0 > -\n"},
		{"a dot 0,0\n", "a dot 0,1\n", "a: a dot 0,0 > a dot 0,1\n"},
		{"a dot 0,0\n", "b dot 0,0\n", "a: a dot 0,0 > -\nb: - > b dot 0,0\n"},
		{"b dot 0,0\n", "a dot 0,0\n", "a: - > a dot 0,0\nb: b dot 0,0 > -\n"},
		{"a line 0,0 4,4 kind=road\n", "a line 0,0 4,4 kind=path\n", "a: a line 0,0 4,4 kind=road > a line 0,0 4,4 kind=path\n"},
		{"a line 0,0 4,4\n", "a line 4,4 0,0 age=old\n", "a: a line 0,0 4,4 > a line 4,4 0,0 age=old\n"},
		{"a ring 0,0 1,0 1,1\n", "a ring 1,0 1,1 0,0\n", "a: a ring 0,0 1,0 1,1 > a ring 1,0 1,1 0,0\n"},
		{"a dot 0,0\nb dot 1,1\nd dot 2,2\n", "b dot 1,1\nc dot 3,3\nd dot 2,3\n",
			"a: a dot 0,0 > -\nc: - > c dot 3,3\nd: d dot 2,2 > d dot 2,3\n"},
	}
	for _, c := range cases {
		a, b := readSheet(t, c.a), readSheet(t, c.b)
		d := impl.DiffOf(a, b)
		if got := impl.DiffText(d); got != c.want {
			t.Errorf("%q to %q: %q", c.a, c.b, got)
		}
		if x, ok := impl.DiffDo(a, d); !ok || impl.SheetText(x) != c.b {
			t.Errorf("%q is turned into %q %v", c.a, impl.SheetText(x), ok)
		}
		if x, ok := impl.DiffDo(b, impl.DiffBack(d)); !ok || impl.SheetText(x) != c.a {
			t.Errorf("%q is turned back into %q %v", c.b, impl.SheetText(x), ok)
		}
	}
}

func TestDiffTurnsAndTurnsBack(t *testing.T) {
	for _, sheets := range [][][]impl.Feat{smallSheets("a", "ab", "b", "zzzzzz"), someSheets()} {
		for _, a := range sheets {
			for _, b := range sheets {
				d := impl.DiffOf(a, b)
				if x, ok := impl.DiffDo(a, d); !ok || !equalSheets(x, b) {
					t.Fatalf("%v to %v: %v %v", a, b, x, ok)
				}
				back := impl.DiffBack(d)
				if x, ok := impl.DiffDo(b, back); !ok || !equalSheets(x, a) {
					t.Fatalf("%v back to %v: %v %v", b, a, x, ok)
				}
				if !equalDiffs(back, wantedDiff(b, a)) {
					t.Fatalf("%v back to %v: %v", b, a, back)
				}
			}
		}
	}
}

// wantedDo is what DiffDo is asked for, made by walking the lists.
func wantedDo(s []impl.Feat, d []impl.Change) ([]impl.Feat, bool) {
	x := copySheet(s)
	for _, c := range d {
		was, had := thingAt(s, c.Id)
		if had != c.Had || !equalFeats(was, c.Was) {
			return nil, false
		}
		x = slices.DeleteFunc(x, func(f impl.Feat) bool { return f.Id == c.Id })
		if c.Has {
			x = withThing(x, c.Now)
		}
	}
	if len(x) > impl.SheetMost {
		return nil, false
	}
	return x, true
}

func TestDiffDo(t *testing.T) {
	for _, s := range smallSheets("a", "ab", "b") {
		for _, d := range smallDiffs("a", "ab", "b") {
			want, wantOk := wantedDo(s, d)
			if x, ok := impl.DiffDo(s, d); ok != wantOk || !equalSheets(x, want) {
				t.Fatalf("%v by %v: %v %v", s, d, x, ok)
			}
		}
	}
	// The same changes with five things beside them, so that some of what comes is too great.
	beside := sheetOf("k", "l", "m", "n", "o", "p")
	for _, few := range smallSheets("a", "ab", "z") {
		for _, d := range smallDiffs("a", "ab", "z") {
			s := copySheet(beside)
			for _, f := range few {
				s = withThing(s, f)
			}
			want, wantOk := wantedDo(s, d)
			if len(s) > impl.SheetMost {
				want, wantOk = nil, false
			}
			if x, ok := impl.DiffDo(s, d); ok != wantOk || !equalSheets(x, want) {
				t.Fatalf("%v by %v: %v %v", s, d, x, ok)
			}
		}
	}
}

func TestDiffDoRefuses(t *testing.T) {
	s := readSheet(t, "b line 0,0 4,4 kind=road\nd dot 1,1\n")
	road, path := readFeat(t, "b line 0,0 4,4 kind=road"), readFeat(t, "b line 0,0 4,4 kind=path")
	for _, c := range []impl.Change{
		came(road), came(path), went(path), turned(path, road),
		went(readFeat(t, "b line 0,0 4,4")), went(readFeat(t, "b line 0,0 4,4 kind=road name=oak")),
		went(readFeat(t, "b line 0,0 4,4 age=road")), went(readFeat(t, "b line 4,4 0,0 kind=road")),
		went(readFeat(t, "b line 0,0 4,4 5,5 kind=road")), went(readFeat(t, "b line 0,0 4,5 kind=road")),
		went(readFeat(t, "b dot 0,0 kind=road")), went(readFeat(t, "aa dot 0,0")), went(readFeat(t, "c dot 0,0")),
		turned(readFeat(t, "c dot 0,0"), readFeat(t, "c dot 1,1")), came(readFeat(t, "d dot 1,1")), went(readFeat(t, "d dot 1,2")),
	} {
		for _, d := range [][]impl.Change{{c}, {came(readFeat(t, "a dot 0,0")), c}, {c, came(readFeat(t, "z dot 0,0"))}} {
			if !impl.DiffOk(d) {
				t.Fatalf("%v is to be refused by the map alone", d)
			}
			if x, ok := impl.DiffDo(s, d); ok || len(x) != 0 {
				t.Errorf("%q: %v %v", impl.DiffText(d), x, ok)
			}
		}
	}
	if x, ok := impl.DiffDo(s, []impl.Change{turned(road, path)}); !ok || impl.SheetText(x) != "b line 0,0 4,4 kind=path\nd dot 1,1\n" {
		t.Errorf("%v %v", x, ok)
	}
	if x, ok := impl.DiffDo(s, nil); !ok || !equalSheets(x, s) {
		t.Errorf("by no changes: %v %v", x, ok)
	}
	if x, ok := impl.DiffDo(nil, nil); !ok || len(x) != 0 {
		t.Errorf("nothing by no changes: %v %v", x, ok)
	}
}

// eightOfEight are two maps of eight things each, of other names: first all of one ahead of all of the other,
// then the other way round, then by turns.
func eightOfEight() [][2][]impl.Feat {
	names := manyNames(16)
	var odd, even []string
	for i, name := range names {
		if i%2 == 0 {
			even = append(even, name)
		} else {
			odd = append(odd, name)
		}
	}
	low, high := sheetOf(names[:8]...), sheetOf(names[8:]...)
	return [][2][]impl.Feat{{low, high}, {high, low}, {sheetOf(even...), sheetOf(odd...)}, {sheetOf(odd...), sheetOf(even...)}}
}

func TestDiffOfEightThatGoAndEightThatCome(t *testing.T) {
	for _, pair := range eightOfEight() {
		d := impl.DiffOf(pair[0], pair[1])
		if len(d) != 16 || !impl.DiffOk(d) {
			t.Fatalf("%d changes", len(d))
		}
		if x, ok := impl.DiffDo(pair[0], d); !ok || !equalSheets(x, pair[1]) {
			t.Errorf("%v %v", x, ok)
		}
		if x, ok := impl.DiffDo(pair[1], impl.DiffBack(d)); !ok || !equalSheets(x, pair[0]) {
			t.Errorf("back: %v %v", x, ok)
		}
		again, ok := impl.DiffThen(d, impl.DiffBack(d))
		if !ok || len(again) != 0 {
			t.Errorf("and back: %v %v", again, ok)
		}
	}
}

func TestDiffDoAsksOnlyForTheEnd(t *testing.T) {
	full := sheetOf("b", "c", "d", "e", "f", "g", "h", "i")
	cases := []struct {
		d    []impl.Change
		want string
	}{
		{[]impl.Change{came(thingOf("a", 1)), went(full[7])}, "abcdefgh"},
		{[]impl.Change{went(full[0]), came(thingOf("z", 1))}, "cdefghiz"},
		{[]impl.Change{came(thingOf("a", 1)), came(thingOf("aa", 2)), went(full[0]), went(full[1])}, "aaadefghi"},
		{[]impl.Change{came(thingOf("a", 1)), came(thingOf("aa", 2)), went(full[0])}, ""},
		{[]impl.Change{came(thingOf("a", 1))}, ""},
		{[]impl.Change{came(thingOf("ca", 1))}, ""},
		{[]impl.Change{came(thingOf("z", 1))}, ""},
		{[]impl.Change{went(full[0]), came(thingOf("y", 1)), came(thingOf("z", 1))}, ""},
		{append(comeAll("a", "aa", "aaa", "aab", "ab", "ac", "ad", "ae"), turned(full[7], thingOf("i", 9))), ""},
		{comeAll("a", "aa", "aaa", "aab", "ab", "ac", "ad", "ae"), ""},
		{[]impl.Change{turned(full[0], thingOf("b", 9)), turned(full[7], thingOf("i", 9))}, "bcdefghi"},
	}
	for i, c := range cases {
		if !impl.DiffOk(c.d) {
			t.Fatalf("case %d is not ok", i)
		}
		x, ok := impl.DiffDo(full, c.d)
		if ok != (c.want != "") || strings.Join(namesInPlace(x), "") != c.want {
			t.Errorf("case %d: %v %v", i, namesInPlace(x), ok)
		}
	}
	none, ok := impl.DiffDo(nil, comeAll(manyNames(9)...))
	if ok || len(none) != 0 {
		t.Errorf("nine come where there was none: %v", none)
	}
	if eight, ok := impl.DiffDo(nil, comeAll(manyNames(8)...)); !ok || !equalSheets(eight, sheetOf(manyNames(8)...)) {
		t.Errorf("eight come where there was none: %v %v", eight, ok)
	}
}

func namesInPlace(s []impl.Feat) []string {
	var names []string
	for _, f := range s {
		names = append(names, f.Id)
	}
	return names
}

func TestDiffBack(t *testing.T) {
	for _, d := range okDiffs() {
		back := impl.DiffBack(d)
		want := copyDiff(d)
		for i, c := range d {
			want[i] = impl.Change{Id: c.Id, Had: c.Has, Was: c.Now, Has: c.Had, Now: c.Was}
		}
		if !equalDiffs(back, want) || !impl.DiffOk(back) {
			t.Errorf("%v: %v", d, back)
		}
		if again := impl.DiffBack(back); !equalDiffs(again, d) {
			t.Errorf("%v twice: %v", d, again)
		}
	}
}

// changeAt walks a list.
func changeAt(d []impl.Change, name string) (impl.Change, bool) {
	place := slices.IndexFunc(d, func(c impl.Change) bool { return c.Id == name })
	if place < 0 {
		return impl.Change{}, false
	}
	return d[place], true
}

// wantedThen is what DiffThen is asked for, made name by name.
func wantedThen(a []impl.Change, b []impl.Change) ([]impl.Change, bool) {
	var names []string
	for _, c := range slices.Concat(a, b) {
		names = append(names, c.Id)
	}
	slices.Sort(names)
	var d []impl.Change
	for _, name := range slices.Compact(names) {
		first, inFirst := changeAt(a, name)
		last, inLast := changeAt(b, name)
		switch {
		case inFirst && inLast && (first.Has != last.Had || !equalFeats(first.Now, last.Was)):
			return nil, false
		case !inFirst:
			first = last
		case !inLast:
			last = first
		}
		c := impl.Change{Id: name, Had: first.Had, Was: first.Was, Has: last.Has, Now: last.Now}
		if c.Had != c.Has || !equalFeats(c.Was, c.Now) {
			d = append(d, c)
		}
	}
	if len(d) > 2*impl.SheetMost {
		return nil, false
	}
	return d, true
}

func TestDiffThen(t *testing.T) {
	for _, names := range [][]string{{"a", "b"}, {"ab"}} {
		for _, a := range smallDiffs(names...) {
			for _, b := range smallDiffs("a", "ab", "b") {
				for _, rows := range [][2][]impl.Change{{a, b}, {b, a}} {
					want, wantOk := wantedThen(rows[0], rows[1])
					d, ok := impl.DiffThen(rows[0], rows[1])
					if ok != wantOk || !equalDiffs(d, want) {
						t.Fatalf("%q then %q: %q %v", impl.DiffText(rows[0]), impl.DiffText(rows[1]), impl.DiffText(d), ok)
					}
				}
			}
		}
	}
}

// One behind the other they are one.
func TestDiffThenIsBoth(t *testing.T) {
	for _, sheets := range [][][]impl.Feat{smallSheets("a", "ab", "b"), someSheets()} {
		for i, a := range sheets {
			for k, b := range sheets {
				for m, c := range sheets {
					if len(sheets) > 27 && (i+k+m)%3 != 0 {
						continue
					}
					first, second := impl.DiffOf(a, b), impl.DiffOf(b, c)
					both, ok := impl.DiffThen(first, second)
					if !ok || !equalDiffs(both, wantedDiff(a, c)) {
						t.Fatalf("%v, %v, %v: %v %v", a, b, c, both, ok)
					}
					if x, ok := impl.DiffDo(a, both); !ok || !equalSheets(x, c) {
						t.Fatalf("%v, %v, %v: %v %v", a, b, c, x, ok)
					}
				}
			}
		}
	}
}

func TestDiffThenLiterals(t *testing.T) {
	f, g, h := readFeat(t, "b dot 0,0"), readFeat(t, "b dot 1,1"), readFeat(t, "b dot 2,2")
	cases := []struct {
		what string
		a, b impl.Change
		want string
	}{
		{"comes and goes again", came(f), went(f), ""},
		{"goes and comes again", went(f), came(f), ""},
		{"turned and turned back", turned(f, g), turned(g, f), ""},
		{"goes and another one comes", went(f), came(g), "b: b dot 0,0 > b dot 1,1\n"},
		{"comes and is turned", came(f), turned(f, g), "b: - > b dot 1,1\n"},
		{"is turned and goes", turned(f, g), went(g), "b: b dot 0,0 > -\n"},
		{"turned twice", turned(f, g), turned(g, h), "b: b dot 0,0 > b dot 2,2\n"},
		{"of two names", came(f), came(readFeat(t, "ab dot 0,0")), "ab: - > ab dot 0,0\nb: - > b dot 0,0\n"},
		{"comes twice", came(f), came(f), "no"},
		{"comes, and another one comes", came(f), came(g), "no"},
		{"comes, and another one goes", came(f), went(g), "no"},
		{"comes, and another one is turned", came(f), turned(g, f), "no"},
		{"goes twice", went(f), went(f), "no"},
		{"goes and is turned", went(f), turned(f, g), "no"},
		{"turned, and comes", turned(f, g), came(g), "no"},
		{"turned, and what was goes", turned(f, g), went(f), "no"},
		{"turned twice the same way", turned(f, g), turned(f, g), "no"},
		{"turned, and another one is turned", turned(f, g), turned(h, f), "no"},
	}
	for _, c := range cases {
		d, ok := impl.DiffThen([]impl.Change{c.a}, []impl.Change{c.b})
		if ok != (c.want != "no") || ok && impl.DiffText(d) != c.want || !ok && len(d) != 0 {
			t.Errorf("%s: %q %v", c.what, impl.DiffText(d), ok)
		}
		// With changes of other names on both sides it ends as it does alone.
		early, late := came(readFeat(t, "a dot 5,5")), went(readFeat(t, "z dot 6,6"))
		want := "a: - > a dot 5,5\n" + c.want + "z: z dot 6,6 > -\n"
		e, ok := impl.DiffThen([]impl.Change{early, c.a}, []impl.Change{c.b, late})
		if ok != (c.want != "no") || ok && impl.DiffText(e) != want || !ok && len(e) != 0 {
			t.Errorf("%s, beside others: %q %v", c.what, impl.DiffText(e), ok)
		}
	}
	if d, ok := impl.DiffThen(nil, nil); !ok || len(d) != 0 {
		t.Errorf("nothing twice: %v %v", d, ok)
	}
	for _, d := range okDiffs() {
		if x, ok := impl.DiffThen(d, nil); !ok || !equalDiffs(x, d) {
			t.Errorf("%v then nothing: %v %v", d, x, ok)
		}
		if x, ok := impl.DiffThen(nil, d); !ok || !equalDiffs(x, d) {
			t.Errorf("nothing then %v: %v %v", d, x, ok)
		}
		if x, ok := impl.DiffThen(d, impl.DiffBack(d)); !ok || len(x) != 0 {
			t.Errorf("%v then back: %v %v", d, x, ok)
		}
	}
}

func TestDiffThenMeetsTheBoundExactly(t *testing.T) {
	all := comeAll(manyNames(33)...)
	for n := range 17 {
		// The first 16, and as many behind them: together 16 + n.
		d, ok := impl.DiffThen(all[:16], all[16:16+n])
		if ok != (n == 0) || ok && !equalDiffs(d, all[:16]) || !ok && len(d) != 0 {
			t.Errorf("16 and %d: %v %v", n, d, ok)
		}
		// The same, the later names first: 16 met exactly, and one more.
		d, ok = impl.DiffThen(all[n:16], all[:n])
		if !ok || !equalDiffs(d, all[:16]) {
			t.Errorf("%d and %d: %v %v", 16-n, n, d, ok)
		}
		d, ok = impl.DiffThen(all[n:17], all[:n])
		if n > 0 && (ok || len(d) != 0) {
			t.Errorf("%d and %d: %v %v", 17-n, n, d, ok)
		}
	}
	// 24 names in all, of which 8 come and go again: 16 are left; with 7 that go again 17 would be.
	for _, gone := range []int{8, 7} {
		second := slices.Concat(impl.DiffBack(all[:gone]), all[16:24])
		d, ok := impl.DiffThen(all[:16], second)
		if ok != (gone == 8) || ok && !equalDiffs(d, all[8:24]) || !ok && len(d) != 0 {
			t.Errorf("%d go again: %v %v", gone, d, ok)
		}
	}
	// All 16 that the first has are turned by the second, and nothing more comes.
	var second, want []impl.Change
	for _, c := range all[:16] {
		other := thingOf(c.Id, 18)
		second = append(second, turned(c.Now, other))
		want = append(want, came(other))
	}
	if d, ok := impl.DiffThen(all[:16], second); !ok || !equalDiffs(d, want) {
		t.Errorf("all are turned: %v %v", d, ok)
	}
}

// A map that would have more than 8 things between two rows is not asked for: only the names are.
func TestDiffThenOfMapsTooGreatInBetween(t *testing.T) {
	full := sheetOf(manyNames(16)[:8]...)
	nine := comeAll("z", "zz")
	both, ok := impl.DiffThen(nine, goAll(manyNames(16)[:2]...))
	if !ok || len(both) != 4 {
		t.Fatalf("%v %v", both, ok)
	}
	if x, ok := impl.DiffDo(full, nine); ok || len(x) != 0 {
		t.Errorf("the first alone makes ten of eight: %v", x)
	}
	want := append(copySheet(full[2:]), nine[0].Now, nine[1].Now)
	if x, ok := impl.DiffDo(full, both); !ok || !equalSheets(x, want) {
		t.Errorf("both: %v %v", x, ok)
	}
	come, ok := impl.DiffThen(comeAll(manyNames(16)...), goAll(manyNames(16)...))
	if !ok || len(come) != 0 {
		t.Errorf("16 come and go again: %v %v", come, ok)
	}
}

func TestDiffText(t *testing.T) {
	a, b := readFeat(t, "a line 0,0 -4,4 kind=road"), readFeat(t, "a ring 0,0 1,0 1,1")
	cases := []struct {
		d    []impl.Change
		want string
	}{
		{nil, ""},
		{[]impl.Change{}, ""},
		{[]impl.Change{went(a)}, "a: a line 0,0 -4,4 kind=road > -\n"},
		{[]impl.Change{came(a)}, "a: - > a line 0,0 -4,4 kind=road\n"},
		{[]impl.Change{turned(a, b)}, "a: a line 0,0 -4,4 kind=road > a ring 0,0 1,0 1,1\n"},
		{[]impl.Change{turned(b, a), came(readFeat(t, "ab dot 1,2")), went(readFeat(t, "b dot 3,4 x=y z=z"))},
			"a: a ring 0,0 1,0 1,1 > a line 0,0 -4,4 kind=road\nab: - > ab dot 1,2\nb: b dot 3,4 x=y z=z > -\n"},
	}
	for _, c := range cases {
		if got := impl.DiffText(c.d); got != c.want {
			t.Errorf("%q, not %q", got, c.want)
		}
	}
	for _, d := range okDiffs() {
		want := ""
		for _, c := range d {
			was, now := "-", "-"
			if c.Had {
				was = impl.FeatText(c.Was)
			}
			if c.Has {
				now = impl.FeatText(c.Now)
			}
			want += c.Id + ": " + was + " > " + now + "\n"
		}
		if got := impl.DiffText(d); got != want {
			t.Errorf("%q, not %q", got, want)
		}
	}
}

func TestDiffNotOkTellsNothing(t *testing.T) {
	for i, d := range wrongDiffs() {
		if back := impl.DiffBack(d); len(back) != 0 {
			t.Errorf("DiffBack of wrong changes %d: %v", i, back)
		}
		if text := impl.DiffText(d); text != "" {
			t.Errorf("DiffText of wrong changes %d: %q", i, text)
		}
		for _, e := range [][]impl.Change{nil, comeAll("k"), goAll("a")} {
			if x, ok := impl.DiffThen(d, e); ok || len(x) != 0 {
				t.Errorf("DiffThen of wrong changes %d: %v %v", i, x, ok)
			}
			if x, ok := impl.DiffThen(e, d); ok || len(x) != 0 {
				t.Errorf("DiffThen with wrong changes %d behind: %v %v", i, x, ok)
			}
		}
		if x, ok := impl.DiffThen(d, d); ok || len(x) != 0 {
			t.Errorf("DiffThen of wrong changes %d twice: %v %v", i, x, ok)
		}
		// Also on the map that has just what was.
		var fit []impl.Feat
		for _, c := range d[:min(len(d), 8)] {
			if c.Had {
				fit = append(fit, c.Was)
			}
		}
		for _, s := range [][]impl.Feat{nil, sheetOf("a", "b"), fit, {thingOf("a", 1)}, {thingOf("a", 2)}} {
			if x, ok := impl.DiffDo(s, d); ok || len(x) != 0 {
				t.Errorf("DiffDo of wrong changes %d: %v %v", i, x, ok)
			}
		}
	}
	for i, s := range wrongSheets() {
		for _, other := range [][]impl.Feat{nil, sheetOf("a", "b"), s} {
			if d := impl.DiffOf(s, other); len(d) != 0 {
				t.Errorf("DiffOf of wrong map %d: %v", i, d)
			}
			if d := impl.DiffOf(other, s); len(d) != 0 {
				t.Errorf("DiffOf to wrong map %d: %v", i, d)
			}
		}
		for _, d := range [][]impl.Change{nil, comeAll("new"), goAll("a"), mixedDiff("a", "b")} {
			if x, ok := impl.DiffDo(s, d); ok || len(x) != 0 {
				t.Errorf("DiffDo of wrong map %d: %v %v", i, x, ok)
			}
		}
	}
}

// What would be ok once it is turned, or once two rows are one, is still not ok when it comes.
func TestDiffIsNotSetRight(t *testing.T) {
	f, g := thingOf("a", 1), thingOf("a", 2)
	bad := featOf("b", shapeOf(impl.ShapeDot, pt(0, 0)), tag("b", "x"), tag("a", "x"))
	if x, ok := impl.DiffDo([]impl.Feat{f, bad}, []impl.Change{went(bad)}); ok || len(x) != 0 {
		t.Errorf("a wrong thing that goes: %v %v", x, ok)
	}
	nine := sheetOf(manyNames(9)...)
	if x, ok := impl.DiffDo(nine, []impl.Change{went(nine[8])}); ok || len(x) != 0 {
		t.Errorf("one of nine goes: %v %v", x, ok)
	}
	if x, ok := impl.DiffDo([]impl.Feat{thingOf("b", 1), f}, []impl.Change{went(f)}); ok || len(x) != 0 {
		t.Errorf("a wrong order that is set right: %v %v", x, ok)
	}
	if x, ok := impl.DiffThen([]impl.Change{came(bad)}, []impl.Change{went(bad)}); ok || len(x) != 0 {
		t.Errorf("a wrong thing that comes and goes: %v %v", x, ok)
	}
	if x, ok := impl.DiffThen([]impl.Change{turned(f, f)}, []impl.Change{turned(f, g)}); ok || len(x) != 0 {
		t.Errorf("nothing turned, then something: %v %v", x, ok)
	}
	all := comeAll(manyNames(17)...)
	if x, ok := impl.DiffThen(all, impl.DiffBack(all[:16])); ok || len(x) != 0 {
		t.Errorf("17 come, 16 go: %v %v", x, ok)
	}
}

// roomyDiff is changes whose things, points and tags all lie ahead of other ones; the whole list comes with it.
func roomyDiff(d []impl.Change) ([]impl.Change, []impl.Change) {
	var all []impl.Change
	for _, c := range append(copyDiff(d), turned(thingOf("behind", 4), thingOf("behind", 5)), came(thingOf("far", 9))) {
		c.Was, _, _ = roomyFeat(c.Was)
		c.Now, _, _ = roomyFeat(c.Now)
		all = append(all, c)
	}
	return all[:len(d)], all
}

// diffRoomOf is changes with all that is behind the ends of their lists, in new memory.
func diffRoomOf(d []impl.Change) []impl.Change {
	room := slices.Clone(d)
	for i, c := range d {
		sides := roomOf([]impl.Feat{c.Was, c.Now})
		room[i].Was, room[i].Now = sides[0], sides[1]
	}
	return room
}

// overwriteDiff writes over all that can be reached of changes, spare room included.
func overwriteDiff(d []impl.Change) {
	room := d[:cap(d)]
	for i := range room {
		for _, f := range []impl.Feat{room[i].Was, room[i].Now} {
			overwrite(f.Shape)
			overwriteTags(f)
		}
		room[i] = impl.Change{Id: "over"}
	}
}

// diffCase is arguments of which all functions can be asked; those that are not given are empty.
type diffCase struct {
	a, b []impl.Feat
	d, e []impl.Change
}

// diffArguments are rows of arguments in roomy memory; was is how all of that memory was.
type diffArguments struct {
	diffCase
	allA, allB []impl.Feat
	allD, allE []impl.Change
	wasA, wasB []impl.Feat
	wasD, wasE []impl.Change
}

func roomyArguments(c diffCase) *diffArguments {
	g := &diffArguments{}
	g.a, g.allA = roomySheet(c.a)
	g.b, g.allB = roomySheet(c.b)
	g.d, g.allD = roomyDiff(c.d)
	g.e, g.allE = roomyDiff(c.e)
	g.wasA, g.wasB, g.wasD, g.wasE = roomOf(g.allA), roomOf(g.allB), diffRoomOf(g.allD), diffRoomOf(g.allE)
	return g
}

func (g *diffArguments) untouched() bool {
	return equalSheets(roomOf(g.allA), g.wasA) && equalSheets(roomOf(g.allB), g.wasB) &&
		equalDiffs(diffRoomOf(g.allD), g.wasD) && equalDiffs(diffRoomOf(g.allE), g.wasE)
}

func (g *diffArguments) overwrite() {
	overwriteSheet(g.allA)
	overwriteSheet(g.allB)
	overwriteDiff(g.allD)
	overwriteDiff(g.allE)
}

// diffAnswers are all answers that hold things; a map is told as things that come, which share its memory.
func diffAnswers(c diffCase) [][]impl.Change {
	done, _ := impl.DiffDo(c.a, c.d)
	var told []impl.Change
	for _, f := range done[:cap(done)] {
		told = append(told, came(f))
	}
	both, _ := impl.DiffThen(c.d, c.e)
	return [][]impl.Change{impl.DiffOf(c.a, c.b), told, impl.DiffBack(c.d), both}
}

func diffCases() []diffCase {
	var list []diffCase
	sheets := smallSheets("aa", "b", "z")
	sheets = append(sheets[len(sheets)-9:], sheetOf(nineNames()[:8]...), sheetOf(manyNames(16)[8:]...), nil)
	for i, a := range sheets {
		for _, b := range sheets {
			c := sheets[(i+5)%len(sheets)]
			list = append(list, diffCase{a, b, wantedDiff(a, b), wantedDiff(b, c)})
		}
	}
	return list
}

func TestDiffLeavesArgumentsAlone(t *testing.T) {
	cases := diffCases()
	for _, d := range append(okDiffs(), wrongDiffs()...) {
		if len(d) < 100 {
			cases = append(cases, diffCase{sheetOf("a", "b"), nil, d, comeAll("m")}, diffCase{nil, sheetOf("a"), goAll("a"), d})
		}
	}
	for _, s := range wrongSheets() {
		if len(s) < 100 {
			cases = append(cases, diffCase{s, sheetOf("a"), goAll("a"), nil}, diffCase{sheetOf("a"), s, goAll("a"), nil})
		}
	}
	for i, c := range cases {
		g := roomyArguments(c)
		diffAnswers(g.diffCase)
		impl.DiffOk(g.d)
		impl.DiffText(g.d)
		if !g.untouched() {
			t.Fatalf("a call has written into the arguments of case %d", i)
		}
	}
}

func TestDiffAnswersShareNothingWithArguments(t *testing.T) {
	for i, c := range diffCases() {
		for n := range diffAnswers(c) {
			g := roomyArguments(c)
			overwriteDiff(diffAnswers(g.diffCase)[n])
			if !g.untouched() {
				t.Fatalf("answer %d of case %d shares memory with an argument", n, i)
			}
			answer := diffAnswers(g.diffCase)[n]
			kept := copyDiff(answer)
			g.overwrite()
			if !equalDiffs(answer, kept) {
				t.Fatalf("answer %d of case %d shares memory with an argument", n, i)
			}
		}
	}
}

// sidesOf are all things of changes, Was and Now by turns.
func sidesOf(d []impl.Change) []impl.Feat {
	var list []impl.Feat
	for _, c := range d {
		list = append(list, c.Was, c.Now)
	}
	return list
}

// sharedChanges are changes whose points and tags all lie in two pieces of memory: things that come, go and
// are turned.
func sharedChanges() []impl.Change {
	s := sharedThings()
	other := s[0]
	other.Id = "b"
	return []impl.Change{went(s[0]), turned(s[1], other), came(s[2]), went(s[3])}
}

// The things that are handed in may lie in one piece of memory; those that are answered may not.
func TestDiffListsOfAnAnswerAreEachItsOwn(t *testing.T) {
	ownLists(t, "of", func() []impl.Feat {
		a, b := sharedThings(), sharedThings()
		b[0], b[1].Shape.Pts, b[3].Tags = a[0], a[0].Shape.Pts[1:4], a[0].Tags[:1]
		return sidesOf(impl.DiffOf(a[:4], b[1:]))
	})
	ownLists(t, "do", func() []impl.Feat {
		s, d := sharedThings(), sharedChanges()
		x, _ := impl.DiffDo([]impl.Feat{s[0], s[1], s[3], s[4]}, d)
		f := s[4]
		f.Id = "f"
		y, _ := impl.DiffDo(x, []impl.Change{came(f)})
		z, _ := impl.DiffDo(s[:4], []impl.Change{came(s[4]), came(f)})
		return slices.Concat(x, y, z)
	})
	ownLists(t, "back", func() []impl.Feat { return sidesOf(impl.DiffBack(sharedChanges())) })
	ownLists(t, "then", func() []impl.Feat {
		d := sharedChanges()
		e := []impl.Change{turned(d[2].Now, d[2].Now), came(sharedThings()[4])}
		e[0].Now.Tags = d[1].Was.Tags
		x, _ := impl.DiffThen(d, e)
		return sidesOf(x)
	})
	ownLists(t, "then, of one row twice", func() []impl.Feat {
		x, _ := impl.DiffThen(sharedChanges(), nil)
		y, _ := impl.DiffThen(nil, sharedChanges())
		return sidesOf(slices.Concat(x, y))
	})
}

func TestDiffAnswersAreNewEachTime(t *testing.T) {
	a, b := readSheet(t, "a line 0,0 1,1 kind=road\nc dot 1,1\n"), readSheet(t, "a dot 0,0 kind=road\nb dot 2,2 a=b\n")
	want := "a: a line 0,0 1,1 kind=road > a dot 0,0 kind=road\nb: - > b dot 2,2 a=b\nc: c dot 1,1 > -\n"
	overwriteDiff(impl.DiffOf(a, b))
	d := impl.DiffOf(a, b)
	overwriteDiff(impl.DiffBack(d))
	overwriteDiff(impl.DiffBack(impl.DiffBack(d)))
	both, _ := impl.DiffThen(d, nil)
	overwriteDiff(both)
	done, _ := impl.DiffDo(a, d)
	overwriteSheet(done)
	same, _ := impl.DiffDo(a, nil)
	overwriteSheet(same)
	if got := impl.DiffText(d); got != want {
		t.Errorf("%q", got)
	}
	if x, ok := impl.DiffDo(a, d); !ok || !equalSheets(x, b) {
		t.Errorf("what was answered once comes again as it was turned: %v %v", x, ok)
	}
}

package tests

import (
	"math"
	"slices"
	"strconv"
	"strings"
	"testing"

	"loop.example/townland/impl"
)

func copyEntries(list []impl.Entry) []impl.Entry {
	var kept []impl.Entry
	for _, e := range list {
		kept = append(kept, impl.Entry{Up: append([]int(nil), e.Up...), Note: e.Note, Diff: copyDiff(e.Diff)})
	}
	return kept
}

func equalEntries(a []impl.Entry, b []impl.Entry) bool {
	return slices.EqualFunc(a, b, func(d impl.Entry, e impl.Entry) bool {
		return slices.Equal(d.Up, e.Up) && d.Note == e.Note && equalDiffs(d.Diff, e.Diff)
	})
}

// turnedEntries is a copy of entries of which something is turned.
func turnedEntries(list []impl.Entry, turn func(l []impl.Entry) []impl.Entry) []impl.Entry {
	return turn(copyEntries(list))
}

// entryBy is an entry of a map turned to another one.
func entryBy(t *testing.T, up string, note string, from string, to string) impl.Entry {
	t.Helper()
	return impl.Entry{Up: placesOf(up), Note: note, Diff: wantedDiff(sheetBy(t, from), sheetBy(t, to))}
}

// wantedPack is what PackOf is asked for of a room that is ok, made by walking the lists.
func wantedPack(r impl.Repo) []impl.Entry {
	var list []impl.Entry
	for _, c := range r.Commits {
		var from []impl.Feat
		if len(c.Up) > 0 {
			from = r.Commits[c.Up[0]].Sheet
		}
		list = append(list, impl.Entry{Up: c.Up, Note: c.Note, Diff: wantedDiff(from, c.Sheet)})
	}
	return list
}

// wantedOpen is what PackOpen is asked for, made by walking the lists; why is what ends it.
func wantedOpen(list []impl.Entry, heads []impl.Head) (r impl.Repo, why string) {
	r.Heads = heads
	for place, e := range list {
		if slices.ContainsFunc(e.Up, func(up int) bool { return up < 0 || up >= place }) {
			return impl.Repo{}, "up"
		}
		var from []impl.Feat
		if len(e.Up) > 0 {
			from = r.Commits[e.Up[0]].Sheet
		}
		if !impl.DiffOk(e.Diff) {
			return impl.Repo{}, "changes"
		}
		s, ok := wantedDo(from, e.Diff)
		if !ok {
			return impl.Repo{}, "fit"
		}
		r.Commits = append(r.Commits, impl.Commit{Up: e.Up, Sheet: s, Note: e.Note})
	}
	if !impl.RepoOk(r) {
		return impl.Repo{}, "room"
	}
	return r, "ok"
}

// joinedRooms are rooms grown by hands that turn, branch and join, so that many versions are made of two.
func joinedRooms(t *testing.T, count int) []impl.Repo {
	t.Helper()
	d := dice(3)
	var list []impl.Repo
	for i := range count {
		r, names := roomWith("-", 0, 0, 0, 0), []string{"a", "ab", "b", "c", "d", "e"}
		for tries := 0; len(r.Commits) < 5+i%10 && tries < 300; tries++ {
			name, other := branchNames()[d.below(4)], branchNames()[d.below(4)]
			at := impl.RepoAt(r, name)
			if d.below(2) == 0 {
				r, _, _ = impl.JoinHeads(r, name, other, "join")
				continue
			}
			r, _ = impl.RepoAdd(r, name, editedOnce(t, &d, r.Commits[at].Sheet, names), "ann")
		}
		list = append(list, r)
	}
	return list
}

// fullRoom is a room of just 14 versions and four branches, which cross, with maps that turn much.
func fullRoom() impl.Repo {
	r := roomWith("- 0 0 1,2 2,1 3,4 4,3 5,6 6,5 7,8 8,7 9,10 10,9 11,12", 13, 12, 8, 5)
	for place := range r.Commits {
		r.Commits[place].Sheet = sheetOf(manyNames(16)[place%3*4:][:8]...)
	}
	r.Commits[0].Note, r.Commits[13].Sheet = "begin", nil
	return r
}

// packRooms are rooms that are ok, of all kinds.
func packRooms(t *testing.T) []impl.Repo {
	t.Helper()
	return slices.Concat(okRepos(), []impl.Repo{fullRoom(), crossed()}, mixedRooms(80), grownRooms(t, 80), joinedRooms(t, 60))
}

// Promise 9: versions are rebuilt to the letter.
func holdPacked(t *testing.T, r impl.Repo) {
	t.Helper()
	list := impl.PackOf(r)
	if !equalEntries(list, wantedPack(r)) {
		t.Fatalf("%v: %q, not %q", r, impl.PackText(list), impl.PackText(wantedPack(r)))
	}
	x, ok := impl.PackOpen(list, r.Heads)
	if !ok || !equalRepos(x, r) || !impl.RepoSame(x, r) {
		t.Fatalf("%v: is rebuilt as %v %v", r, x, ok)
	}
	if again := impl.PackOf(x); !equalEntries(again, list) {
		t.Fatalf("%v: packed again: %v, not %v", r, again, list)
	}
}

func TestPackIsRebuiltToTheLetter(t *testing.T) {
	most, two, still, crossing, joined := 0, 0, 0, 0, 0
	for _, r := range append(packRooms(t), smallRooms()...) {
		holdPacked(t, r)
		if len(r.Commits) == 14 && len(r.Heads) == 4 {
			most++
		}
		for place, c := range r.Commits {
			if len(c.Up) == 2 {
				two++
			}
			if c.Note == "join" {
				joined++
			}
			if len(c.Up) > 0 && equalSheets(c.Sheet, r.Commits[c.Up[0]].Sheet) {
				still++
			}
			for other := range place {
				if len(impl.RepoBases(r, place, other)) > 1 {
					crossing++
				}
			}
		}
	}
	if most < 10 || two < 100 || still < 50 || crossing < 100 || joined < 50 {
		t.Errorf("more of the rooms are to be full, of two, still, to cross, and to be joined: %d %d %d %d %d", most, two, still, crossing, joined)
	}
}

func TestPackOfLiterals(t *testing.T) {
	for _, c := range []struct{ what, ups, maps, want string }{
		{"the map with nothing", "-", "", "0 ann\n"},
		{"a first map with something", "-", "a dot 0,0; b dot 1,1 k=x", "0 ann\na: - > a dot 0,0\nb: - > b dot 1,1 k=x\n"},
		{"one behind the other", "- 0 1 2", "|a dot 0,0|a dot 0,1; b dot 1,1|b dot 1,1",
			"0 ann\n1 0 ann\na: - > a dot 0,0\n2 1 ann\na: a dot 0,0 > a dot 0,1\nb: - > b dot 1,1\n3 2 ann\na: a dot 0,1 > -\n"},
		{"not the one right ahead", "- 0 0 1", "a dot 0,0|a dot 1,1|a dot 2,2|a dot 3,3",
			"0 ann\na: - > a dot 0,0\n1 0 ann\na: a dot 0,0 > a dot 1,1\n2 0 ann\na: a dot 0,0 > a dot 2,2\n3 1 ann\na: a dot 1,1 > a dot 3,3\n"},
		{"versions that turned nothing", "- 0 1 2", "|a dot 0,0|a dot 0,0|a dot 0,0", "0 ann\n1 0 ann\na: - > a dot 0,0\n2 1 ann\n3 2 ann\n"},
		{"two ahead, by the first alone", "- 0 0 1,2", "|a dot 0,0|b dot 0,0|a dot 0,0; b dot 0,0",
			"0 ann\n1 0 ann\na: - > a dot 0,0\n2 0 ann\nb: - > b dot 0,0\n3 1 2 ann\nb: - > b dot 0,0\n"},
		{"two ahead, the other way round", "- 0 0 2,1", "|a dot 0,0|b dot 0,0|a dot 0,0; b dot 0,0",
			"0 ann\n1 0 ann\na: - > a dot 0,0\n2 0 ann\nb: - > b dot 0,0\n3 2 1 ann\na: - > a dot 0,0\n"},
		{"two ahead, the map of the first", "- 0 0 1,2", "|a dot 0,0|b dot 0,0|a dot 0,0",
			"0 ann\n1 0 ann\na: - > a dot 0,0\n2 0 ann\nb: - > b dot 0,0\n3 1 2 ann\n"},
		{"two ahead, the map of the second", "- 0 0 1,2", "|a dot 0,0|b dot 0,0|b dot 0,0",
			"0 ann\n1 0 ann\na: - > a dot 0,0\n2 0 ann\nb: - > b dot 0,0\n3 1 2 ann\na: a dot 0,0 > -\nb: - > b dot 0,0\n"},
		{"two ahead, one ahead of the other", "- 0 1 2,0", "a dot 0,0|a dot 1,1|a dot 2,2|a dot 0,0",
			"0 ann\na: - > a dot 0,0\n1 0 ann\na: a dot 0,0 > a dot 1,1\n2 1 ann\na: a dot 1,1 > a dot 2,2\n3 2 0 ann\na: a dot 2,2 > a dot 0,0\n"},
		{"crossing", "- 0 0 1,2 2,1", "|a dot 0,0|b dot 0,0|a dot 0,0; b dot 0,0|a dot 0,0; b dot 0,0",
			"0 ann\n1 0 ann\na: - > a dot 0,0\n2 0 ann\nb: - > b dot 0,0\n3 1 2 ann\nb: - > b dot 0,0\n4 2 1 ann\na: - > a dot 0,0\n"},
	} {
		r := mapsRoom(t, c.ups, c.maps, 0)
		list := impl.PackOf(r)
		if text := impl.PackText(list); text != c.want || !equalEntries(list, wantedPack(r)) {
			t.Errorf("%s: %q, not %q", c.what, text, c.want)
		}
		holdPacked(t, r)
	}
	begun, _ := impl.RepoNew("main")
	if list := impl.PackOf(begun); !equalEntries(list, []impl.Entry{{Note: "begin"}}) {
		t.Errorf("a new room: %v", list)
	}
	eight := impl.Repo{Commits: []impl.Commit{{Note: "a", Sheet: sheetOf(manyNames(16)[:8]...)}, {Up: []int{0}, Note: "b", Sheet: sheetOf(manyNames(16)[8:]...)}}, Heads: headsAt(1)}
	if list := impl.PackOf(eight); impl.PackSize(list) != 24 || len(list[1].Diff) != 16 {
		t.Errorf("eight go and eight come: %v", list)
	}
	holdPacked(t, eight)
}

// Branches are not among the entries.
func TestPackOfAsksNoBranches(t *testing.T) {
	for _, r := range packRooms(t)[:60] {
		want := impl.PackOf(r)
		for _, heads := range [][]impl.Head{headsAt(0), headsAt(0, len(r.Commits)-1), headsAt(0, 0, 0, 0)} {
			if list := impl.PackOf(impl.Repo{Commits: r.Commits, Heads: heads}); !equalEntries(list, want) {
				t.Fatalf("%v with %v: %v", r, heads, list)
			}
		}
	}
}

func TestPackOfNotOkTellsNothing(t *testing.T) {
	for _, w := range wrongRepos() {
		if list := impl.PackOf(w.r); len(list) != 0 {
			t.Errorf("%s: %d entries", w.what, len(list))
		}
	}
}

// holdOpen asks for what comes of entries that are right.
func holdOpen(t *testing.T, what string, list []impl.Entry, heads []impl.Head, want impl.Repo) {
	t.Helper()
	if x, ok := impl.PackOpen(list, heads); !ok || !equalRepos(x, want) {
		t.Errorf("%s: %v %v, not %v", what, x, ok, want)
	}
}

func holdRefused(t *testing.T, what string, list []impl.Entry, heads []impl.Head) {
	t.Helper()
	if x, ok := impl.PackOpen(list, heads); ok || !isNoRepo(x) {
		t.Errorf("%s: %v %v", what, x, ok)
	}
}

func TestPackOpenLiterals(t *testing.T) {
	heads := headsAt(2, 1)
	list := []impl.Entry{
		entryBy(t, "-", "begin", "", ""),
		entryBy(t, "0", "ann", "", "a dot 0,0; b dot 1,1"),
		entryBy(t, "1", "bob", "a dot 0,0; b dot 1,1", "b dot 1,2; c dot 3,3"),
		entryBy(t, "0", "bob", "", "d dot 0,0"),
		entryBy(t, "3,2", "join", "d dot 0,0", "b dot 1,2; c dot 3,3; d dot 0,0"),
		entryBy(t, "4", "still", "", ""),
	}
	r := mapsRoom(t, "- 0 1 0 3,2 4", "|a dot 0,0; b dot 1,1|b dot 1,2; c dot 3,3|d dot 0,0|"+
		"b dot 1,2; c dot 3,3; d dot 0,0|b dot 1,2; c dot 3,3; d dot 0,0", 2, 1)
	for place, note := range []string{"begin", "ann", "bob", "bob", "join", "still"} {
		r.Commits[place].Note = note
	}
	holdOpen(t, "of all kinds", list, heads, r)
	holdOpen(t, "the first map is not empty", []impl.Entry{entryBy(t, "-", "a", "", "a dot 0,0")}, headsAt(0),
		impl.Repo{Commits: []impl.Commit{{Sheet: sheetBy(t, "a dot 0,0"), Note: "a"}}, Heads: headsAt(0)})
	holdOpen(t, "empty lists", []impl.Entry{{Up: []int{}, Note: "a", Diff: []impl.Change{}}}, headsAt(0),
		impl.Repo{Commits: []impl.Commit{{Note: "a"}}, Heads: headsAt(0)})
	holdOpen(t, "eight things", []impl.Entry{{Note: "a", Diff: comeAll(manyNames(8)...)}}, headsAt(0),
		impl.Repo{Commits: []impl.Commit{{Sheet: sheetOf(manyNames(8)...), Note: "a"}}, Heads: headsAt(0)})
}

// soundRoom is a room in which every two versions have other maps, with versions of one Up and of two.
func soundRoom() impl.Repo { return roomWith("- 0 0 1,2 3 2,1", 5, 4, 2) }

func TestPackOpenRefusesUps(t *testing.T) {
	r := soundRoom()
	list := impl.PackOf(r)
	holdOpen(t, "as it was", list, r.Heads, r)
	for place, e := range list {
		with := func(what string, up ...int) {
			t.Helper()
			other := turnedEntries(list, func(l []impl.Entry) []impl.Entry {
				l[place].Up = up
				// The changes are such that they fit wherever the first of the Up is an entry ahead.
				var from []impl.Feat
				if len(up) > 0 && up[0] >= 0 && up[0] < place {
					from = r.Commits[up[0]].Sheet
				}
				l[place].Diff = wantedDiff(from, r.Commits[place].Sheet)
				return l
			})
			holdRefused(t, "entry "+strconv.Itoa(place)+": "+what, other, r.Heads)
		}
		for _, none := range []int{-1, -2, place, place + 1, 5, 6, 13, 14, math.MinInt, math.MaxInt} {
			if none >= 0 && none < place {
				continue
			}
			with("an Up that is none", none)
			with("two Up that are none", none, none)
			for ahead := range place {
				with("the second Up is none", ahead, none)
				with("the first Up is none", none, ahead)
				with("the third Up is none", ahead, (ahead+1)%place, none)
			}
		}
		for ahead := range place {
			with("two Up that are one", ahead, ahead)
			with("three Up that are one", ahead, ahead, ahead)
			with("three Up, two of them one", ahead, (ahead+1)%place, ahead)
			with("three Up", ahead, (ahead+1)%place, (ahead+2)%place)
			with("many Up", slices.Repeat([]int{ahead}, 5000)...)
		}
		if len(e.Up) > 0 {
			with("no Up")
		} else {
			with("an Up of the first", 0)
			with("an Up behind the first", 1)
		}
	}
}

// Every Up of at most three places in every place: taken where the document takes it.
func TestPackOpenOfAllUps(t *testing.T) {
	r := roomWith("- 0 0 0", 0)
	for place := range 4 {
		for n := range 7 * 7 * 7 * 4 {
			up := []int{n%7 - 1, n/7%7 - 1, n/49%7 - 1}[:n/343]
			list := copyEntries(wantedPack(r))
			want := place == 0 && len(up) == 0 || place > 0 && (len(up) == 1 || len(up) == 2 && up[0] != up[1])
			for _, at := range up {
				want = want && at >= 0 && at < place
			}
			list[place].Up = up
			if len(up) > 0 && up[0] >= 0 && up[0] < place {
				list[place].Diff = wantedDiff(r.Commits[up[0]].Sheet, r.Commits[place].Sheet)
			}
			x, ok := impl.PackOpen(list, r.Heads)
			wanted := impl.Repo{}
			if want {
				wanted = turnedRepo(r, func(r *impl.Repo) { r.Commits[place].Up = up })
			}
			if ok != want || !equalRepos(x, wanted) {
				t.Fatalf("entry %d with the Up %v: %v %v", place, up, x, ok)
			}
		}
	}
}

func TestPackOpenRefusesChanges(t *testing.T) {
	r := soundRoom()
	list := impl.PackOf(r)
	for place := range list {
		with := func(what string, d []impl.Change) {
			t.Helper()
			other := turnedEntries(list, func(l []impl.Entry) []impl.Entry {
				l[place].Diff = d
				return l
			})
			holdRefused(t, "entry "+strconv.Itoa(place)+": "+what, other, r.Heads)
		}
		own, up := r.Commits[place].Sheet, r.Commits[place].Up
		for other := range r.Commits {
			// From its own map nothing is turned, and that fits everywhere.
			if other != place && (len(up) == 0 || other != up[0]) {
				with("from the map of version "+strconv.Itoa(other), wantedDiff(r.Commits[other].Sheet, own))
			}
		}
		if len(up) > 0 {
			with("from the map with nothing", wantedDiff(nil, own))
			with("a thing that is there comes", []impl.Change{came(thingOf("a", 3))})
		} else {
			with("a thing that is not there is turned", []impl.Change{turned(thingOf("b", 3), thingOf("b", 4))})
		}
		with("turned back", impl.DiffBack(list[place].Diff))
		with("a thing that is not there goes", []impl.Change{went(thingOf("zz", 3))})
		with("another thing than is there goes", []impl.Change{went(thingOf("a", 3))})
		with("beside what fits", append(copyDiff(list[place].Diff), went(thingOf("zz", 3))))
		with("ahead of what fits", append([]impl.Change{went(thingOf("Z", 3))}, copyDiff(list[place].Diff)...))
		with("the same changes twice", append(copyDiff(list[place].Diff), list[place].Diff...))
		with("the last one first", slices.Concat(list[place].Diff[1:], list[place].Diff[:1]))
		for i, d := range wrongDiffs() {
			with("wrong changes "+strconv.Itoa(i), d)
		}
		with("nine things", append(copyDiff(list[place].Diff), comeAll("c", "d", "e", "f", "g", "h", "i")...))
	}
}

// Of a version with two ahead of it the map of the first alone is asked.
func TestPackOpenGoesByTheFirstUp(t *testing.T) {
	r := mapsRoom(t, "- 0 0 2,1", "|a dot 0,0|b dot 0,0|a dot 0,0; b dot 0,0", 3)
	list := impl.PackOf(r)
	holdOpen(t, "by the first", list, r.Heads, r)
	bySecond := turnedEntries(list, func(l []impl.Entry) []impl.Entry {
		l[3].Diff = wantedDiff(r.Commits[1].Sheet, r.Commits[3].Sheet)
		return l
	})
	holdRefused(t, "by the second", bySecond, r.Heads)
	bySecond[3].Up = []int{1, 2}
	holdOpen(t, "by the second as the first", bySecond, r.Heads, turnedRepo(r, func(r *impl.Repo) { r.Commits[3].Up = []int{1, 2} }))
	both := turnedEntries(list, func(l []impl.Entry) []impl.Entry {
		l[3].Diff = wantedDiff(r.Commits[3].Sheet, nil)
		return l
	})
	holdRefused(t, "by both", both, r.Heads)
}

// Changes that are not ok, though each fits the map as it is when it is done.
func TestPackOpenRefusesChangesThatFitButAreNotOk(t *testing.T) {
	a, b, c := readFeat(t, "a dot 0,0"), readFeat(t, "a dot 1,1"), readFeat(t, "c dot 0,0")
	first := impl.Entry{Note: "begin", Diff: []impl.Change{came(a)}}
	holdOpen(t, "ok", []impl.Entry{first, {Up: []int{0}, Note: "x", Diff: []impl.Change{turned(a, b), came(c)}}}, headsAt(1),
		impl.Repo{Commits: []impl.Commit{{Note: "begin", Sheet: []impl.Feat{a}}, {Up: []int{0}, Note: "x", Sheet: []impl.Feat{b, c}}}, Heads: headsAt(1)})
	for i, d := range [][]impl.Change{
		{turned(a, a)},
		{came(c), turned(a, b)},
		{turned(a, b), turned(b, a)},
		{turned(a, b), turned(b, a), came(c)},
		{came(c), went(c)},
		{{Id: "zz"}},
		{{Id: "c", Now: c}},
		{{Id: "a", Had: true, Was: a, Now: b}},
		{{Id: "a", Had: true, Was: a, Has: true, Now: c}},
		{{Id: "c", Has: true, Now: b}},
		{{Id: "B", Has: true, Now: impl.Feat{Id: "B", Shape: a.Shape}}},
		{{Id: "b", Has: true, Now: impl.Feat{Id: "b"}}},
	} {
		holdRefused(t, "changes "+strconv.Itoa(i), []impl.Entry{first, {Up: []int{0}, Note: "x", Diff: d}}, headsAt(1))
	}
}

func TestPackOpenRefusesNotes(t *testing.T) {
	r := soundRoom()
	list := impl.PackOf(r)
	for place := range list {
		for _, word := range wrongWords() {
			other := turnedEntries(list, func(l []impl.Entry) []impl.Entry {
				l[place].Note = word
				return l
			})
			holdRefused(t, "entry "+strconv.Itoa(place)+" with the note "+strconv.Quote(word[:min(len(word), 9)]), other, r.Heads)
		}
		other := turnedEntries(list, func(l []impl.Entry) []impl.Entry {
			l[place].Note = "zzzzzz"
			return l
		})
		holdOpen(t, "a note of six letters", other, r.Heads, turnedRepo(r, func(r *impl.Repo) { r.Commits[place].Note = "zzzzzz" }))
	}
}

func TestPackOpenRefusesTwoThatAreOne(t *testing.T) {
	r := soundRoom()
	list := impl.PackOf(r)
	for place := range list[1:] {
		twice := append(copyEntries(list), copyEntries(list)[place+1])
		holdRefused(t, "entry "+strconv.Itoa(place+1)+" twice", twice, r.Heads)
		made := r.Commits[place+1]
		other := copyCommit(made)
		other.Note = "other"
		twice[6].Note = "other"
		holdOpen(t, "one that is nearly such, by its note", twice, r.Heads, withVersion(r, other))
		other, twice[6].Note = copyCommit(made), made.Note
		other.Up, twice[6].Up = []int{made.Up[0], 5}, []int{made.Up[0], 5}
		if !slices.Equal(other.Up, made.Up) {
			holdOpen(t, "one that is nearly such, by its Up", twice, r.Heads, withVersion(r, other))
		}
		twice[6].Up, twice[6].Diff = made.Up, twice[6].Diff[1:]
		s, _ := wantedDo(r.Commits[made.Up[0]].Sheet, twice[6].Diff)
		holdOpen(t, "one that is nearly such, by its map", twice, r.Heads, withVersion(r, impl.Commit{Up: made.Up, Sheet: s, Note: made.Note}))
	}
	still := []impl.Entry{{Note: "a"}, {Up: []int{0}, Note: "b"}, {Up: []int{0}, Note: "b"}}
	holdRefused(t, "two that turned nothing", still, headsAt(0))
	still[2].Up = []int{1}
	holdOpen(t, "one behind the other, that turned nothing", still, headsAt(0),
		impl.Repo{Commits: []impl.Commit{{Note: "a"}, {Up: []int{0}, Note: "b"}, {Up: []int{1}, Note: "b"}}, Heads: headsAt(0)})
}

func TestPackOpenMeetsSheetMostExactly(t *testing.T) {
	names := manyNames(16)
	for n := range 17 {
		want := impl.Repo{Commits: []impl.Commit{{Note: "a"}, {Up: []int{0}, Sheet: sheetOf(names[:n]...), Note: "b"}}, Heads: headsAt(1)}
		list := []impl.Entry{{Note: "a"}, {Up: []int{0}, Note: "b", Diff: comeAll(names[:n]...)}}
		first := []impl.Entry{{Note: "a", Diff: comeAll(names[:n]...)}}
		one := impl.Repo{Commits: []impl.Commit{{Sheet: sheetOf(names[:n]...), Note: "a"}}, Heads: headsAt(0)}
		if n <= 8 {
			holdOpen(t, strconv.Itoa(n)+" things", list, headsAt(1), want)
			holdOpen(t, strconv.Itoa(n)+" things of the first", first, headsAt(0), one)
		} else {
			holdRefused(t, strconv.Itoa(n)+" things", list, headsAt(1))
			holdRefused(t, strconv.Itoa(n)+" things of the first", first, headsAt(0))
		}
	}
	// One more comes to eight, alone, and as another one goes that is behind it.
	full := sheetOf(names[1:9]...)
	eight := impl.Entry{Note: "a", Diff: wantedDiff(nil, full)}
	more := impl.Entry{Up: []int{0}, Note: "b", Diff: []impl.Change{came(thingOf("a", 3))}}
	holdRefused(t, "a ninth", []impl.Entry{eight, more}, headsAt(0))
	more.Diff = append(more.Diff, went(full[7]))
	holdOpen(t, "one for another", []impl.Entry{eight, more}, headsAt(0), impl.Repo{Heads: headsAt(0),
		Commits: []impl.Commit{{Note: "a", Sheet: full}, {Up: []int{0}, Note: "b", Sheet: append([]impl.Feat{thingOf("a", 3)}, full[:7]...)}}})
}

func TestPackOpenMeetsCommitMostExactly(t *testing.T) {
	for count := range 18 {
		r := roomWith(oneRow(max(count, 1)), 0)
		r.Commits = r.Commits[:count]
		list := wantedPack(r)
		if count >= 1 && count <= 14 {
			holdOpen(t, strconv.Itoa(count)+" entries", list, r.Heads, r)
			last := turnedRepo(r, func(r *impl.Repo) { r.Heads = headsAt(count-1, 0, count-1, 0) })
			holdOpen(t, strconv.Itoa(count)+" entries, a branch at the last", list, last.Heads, last)
			continue
		}
		holdRefused(t, strconv.Itoa(count)+" entries", list, r.Heads)
		holdRefused(t, strconv.Itoa(count)+" entries, a branch at the last", list, headsAt(max(count-1, 0)))
		holdRefused(t, strconv.Itoa(count)+" entries, no branch", list, nil)
	}
	holdRefused(t, "no entry, an empty list", []impl.Entry{}, headsAt(0))
	many := []impl.Entry{{Note: "a"}}
	for place := range 5000 {
		many = append(many, impl.Entry{Up: []int{place}, Note: "a"})
	}
	holdRefused(t, "many entries", many, headsAt(0))
	slices.Reverse(many)
	holdRefused(t, "many entries, the last first", many, headsAt(0))
}

func TestPackOpenMeetsHeadMostExactly(t *testing.T) {
	r := soundRoom()
	list := impl.PackOf(r)
	names := manyNames(16)
	for count := range 10 {
		var heads []impl.Head
		for i := range count {
			heads = append(heads, impl.Head{Name: names[9-i], At: i % 6})
		}
		if count >= 1 && count <= 4 {
			holdOpen(t, strconv.Itoa(count)+" branches", list, heads, impl.Repo{Commits: r.Commits, Heads: heads})
		} else {
			holdRefused(t, strconv.Itoa(count)+" branches", list, heads)
		}
	}
	holdRefused(t, "no branch, an empty list", list, []impl.Head{})
	holdRefused(t, "many branches", list, slices.Repeat(headsAt(0), 5000))
}

func TestPackOpenRefusesBranches(t *testing.T) {
	r := soundRoom()
	list := impl.PackOf(r)
	for i := range r.Heads {
		with := func(what string, turn func(h *impl.Head)) {
			t.Helper()
			heads := slices.Clone(r.Heads)
			turn(&heads[i])
			holdRefused(t, "branch "+strconv.Itoa(i)+": "+what, list, heads)
		}
		for _, at := range []int{-1, 6, 7, 13, 14, math.MinInt, math.MaxInt} {
			with("at no version", func(h *impl.Head) { h.At = at })
		}
		for _, word := range wrongWords() {
			with("no word", func(h *impl.Head) { h.Name = word })
		}
		with("a name that is there", func(h *impl.Head) { h.Name = r.Heads[(i+1)%3].Name })
		with("just the next one", func(h *impl.Head) { *h = r.Heads[(i+1)%3] })
		for at := range 6 {
			heads := slices.Clone(r.Heads)
			heads[i].At = at
			holdOpen(t, "at a version", list, heads, impl.Repo{Commits: r.Commits, Heads: heads})
		}
	}
}

// The first entries, with branches that lead to these alone, are the first versions.
func TestPackOpenOfTheFirstEntries(t *testing.T) {
	for _, r := range packRooms(t) {
		list := impl.PackOf(r)
		for n := range len(list) + 1 {
			few := slices.DeleteFunc(slices.Clone(r.Heads), func(h impl.Head) bool { return h.At >= n })
			for _, heads := range [][]impl.Head{few, headsAt(n - 1), headsAt(0, n-1), headsAt(n-1, n/2, 0, n-1), headsAt(n), headsAt(0, n), nil} {
				astray := slices.ContainsFunc(heads, func(h impl.Head) bool { return h.At >= n })
				want, wantOk := impl.Repo{}, false
				if n > 0 && len(heads) > 0 && !astray {
					want, wantOk = impl.Repo{Commits: r.Commits[:n], Heads: heads}, true
				}
				if x, ok := impl.PackOpen(list[:n], heads); ok != wantOk || !equalRepos(x, want) {
					t.Fatalf("the first %d of %v with %v: %v %v", n, r, heads, x, ok)
				}
			}
		}
	}
}

// nearEntries are entries of which one part alone is another one.
func nearEntries(list []impl.Entry) [][]impl.Entry {
	var all [][]impl.Entry
	turn := func(turn func(l []impl.Entry) []impl.Entry) { all = append(all, turnedEntries(list, turn)) }
	for i, e := range list {
		turn(func(l []impl.Entry) []impl.Entry { return slices.Delete(l, i, i+1) })
		turn(func(l []impl.Entry) []impl.Entry { return append(l, copyEntries(list)[i]) })
		turn(func(l []impl.Entry) []impl.Entry { return slices.Insert(l, i, copyEntries(list)[i]) })
		turn(func(l []impl.Entry) []impl.Entry { l[i].Note += "x"; return l })
		turn(func(l []impl.Entry) []impl.Entry { l[i].Up = append(l[i].Up, 0); return l })
		turn(func(l []impl.Entry) []impl.Entry { l[i].Up = append(l[i].Up, i-1); return l })
		turn(func(l []impl.Entry) []impl.Entry { slices.Reverse(l[i].Up); return l })
		turn(func(l []impl.Entry) []impl.Entry { l[i].Diff = nil; return l })
		turn(func(l []impl.Entry) []impl.Entry { slices.Reverse(l[i].Diff); return l })
		turn(func(l []impl.Entry) []impl.Entry {
			l[i].Diff = append(l[i].Diff, came(thingOf("zz", i)))
			return l
		})
		for k := range e.Up {
			turn(func(l []impl.Entry) []impl.Entry { l[i].Up[k]++; return l })
			turn(func(l []impl.Entry) []impl.Entry { l[i].Up[k]--; return l })
			turn(func(l []impl.Entry) []impl.Entry { l[i].Up = slices.Delete(l[i].Up, k, k+1); return l })
		}
		for k, c := range e.Diff {
			other := func(d impl.Change) {
				turn(func(l []impl.Entry) []impl.Entry { l[i].Diff[k] = d; return l })
			}
			turn(func(l []impl.Entry) []impl.Entry { l[i].Diff = slices.Delete(l[i].Diff, k, k+1); return l })
			other(impl.Change{Id: c.Id, Had: c.Has, Was: c.Now, Has: c.Had, Now: c.Was})
			other(impl.Change{Id: c.Id, Had: c.Had, Was: c.Was})
			other(impl.Change{Id: c.Id, Has: c.Has, Now: c.Now})
			other(impl.Change{Id: c.Id, Had: c.Had, Was: c.Was, Has: true, Now: thingOf(c.Id, 7)})
			other(impl.Change{Id: c.Id, Had: true, Was: thingOf(c.Id, 7), Has: c.Has, Now: c.Now})
		}
	}
	return all
}

func TestPackOpenOfChangedEntries(t *testing.T) {
	ends := map[string]int{}
	rooms := slices.Concat(okRepos(), []impl.Repo{fullRoom(), soundRoom()}, mixedRooms(20), grownRooms(t, 40), joinedRooms(t, 20))
	for _, r := range rooms {
		for _, list := range nearEntries(impl.PackOf(r)) {
			want, why := wantedOpen(list, r.Heads)
			ends[why]++
			x, ok := impl.PackOpen(list, r.Heads)
			if ok != (why == "ok") || !equalRepos(x, want) {
				t.Fatalf("%q: %v %v, not %v %s", impl.PackText(list), x, ok, want, why)
			}
			if ok && !equalEntries(impl.PackOf(x), list) {
				t.Fatalf("%q: packed again: %q", impl.PackText(list), impl.PackText(impl.PackOf(x)))
			}
		}
	}
	for _, why := range []string{"ok", "up", "changes", "fit", "room"} {
		if ends[why] < 100 {
			t.Errorf("the entries are to end in all ways: %v", ends)
		}
	}
}

// Where several things are wrong at once it is refused as well.
func TestPackOpenOfManyWrong(t *testing.T) {
	wrong := impl.Entry{Up: []int{-1, 99, 99}, Note: "No", Diff: []impl.Change{{}}}
	for n := range 20 {
		for _, heads := range [][]impl.Head{nil, headsAt(0), headsAt(n), headsAt(-1, -1, -1, -1, -1), {{}}} {
			holdRefused(t, "all wrong", slices.Repeat([]impl.Entry{wrong}, n), heads)
			holdRefused(t, "all nothing", slices.Repeat([]impl.Entry{{}}, n), heads)
		}
	}
}

func TestPackSize(t *testing.T) {
	come := comeAll(manyNames(50)...)
	for _, c := range []struct {
		what  string
		sizes []int
		want  int
	}{
		{"none", nil, 0},
		{"one without changes", []int{0}, 0},
		{"several without changes", []int{0, 0, 0}, 0},
		{"one", []int{1}, 1},
		{"several", []int{2, 0, 5, 1, 0}, 8},
		{"as many as can be", []int{16, 16, 16}, 48},
		{"more than can be", []int{50, 17, 50}, 117},
		{"more entries than can be", slices.Repeat([]int{3}, 5000), 15000},
	} {
		var list []impl.Entry
		for _, size := range c.sizes {
			list = append(list, impl.Entry{Note: "a", Diff: come[:size]})
		}
		if size := impl.PackSize(list); size != c.want {
			t.Errorf("%s: %d, not %d", c.what, size, c.want)
		}
		for i := range list {
			list[i] = impl.Entry{Up: []int{-1, i, 99}, Note: "\xff", Diff: slices.Repeat([]impl.Change{{}}, c.sizes[i])}
		}
		if size := impl.PackSize(list); size != c.want {
			t.Errorf("%s, that PackOpen would refuse: %d, not %d", c.what, size, c.want)
		}
	}
	if size := impl.PackSize([]impl.Entry{}); size != 0 {
		t.Errorf("the empty list: %d", size)
	}
	for _, r := range packRooms(t) {
		want := 0
		for _, e := range wantedPack(r) {
			want += strings.Count(impl.DiffText(e.Diff), "\n")
		}
		if size := impl.PackSize(impl.PackOf(r)); size != want {
			t.Fatalf("%v: %d, not %d", r, size, want)
		}
	}
}

func TestPackText(t *testing.T) {
	a, b := readFeat(t, "a line 0,0 -4,4 kind=road"), readFeat(t, "a ring 0,0 1,0 1,1")
	come := []impl.Change{came(a), went(readFeat(t, "b dot 1,1 k=x m=y"))}
	comeText := "a: - > a line 0,0 -4,4 kind=road\nb: b dot 1,1 k=x m=y > -\n"
	cases := []struct {
		list []impl.Entry
		want string
	}{
		{nil, ""},
		{[]impl.Entry{}, ""},
		{[]impl.Entry{{Note: "begin"}}, "0 begin\n"},
		{[]impl.Entry{{Up: []int{}, Note: "begin", Diff: []impl.Change{}}}, "0 begin\n"},
		{[]impl.Entry{{Note: "begin", Diff: come}}, "0 begin\n" + comeText},
		{[]impl.Entry{{Note: "a"}, {Up: []int{0}, Note: "b"}}, "0 a\n1 0 b\n"},
		{[]impl.Entry{{Note: "a"}, {Up: []int{0}, Note: "b", Diff: []impl.Change{turned(a, b)}}, {Up: []int{1, 0}, Note: "c"}, {Up: []int{0, 2}, Note: "d", Diff: come}},
			"0 a\n1 0 b\na: a line 0,0 -4,4 kind=road > a ring 0,0 1,0 1,1\n2 1 0 c\n3 0 2 d\n" + comeText},
		// What PackOpen would refuse is written all the same; of changes that are not ok there is no text.
		{[]impl.Entry{{}}, "0 \n"},
		{[]impl.Entry{{Up: []int{7}}}, "0 7 \n"},
		{[]impl.Entry{{Up: []int{-1, 0, 100, -20, 5}, Note: "No One\n\xff"}, {}}, "0 -1 0 100 -20 5 No One\n\xff\n1 \n"},
		{[]impl.Entry{{Up: []int{math.MinInt64, math.MaxInt64}, Note: " "}}, "0 -9223372036854775808 9223372036854775807  \n"},
		{[]impl.Entry{{Note: "a", Diff: []impl.Change{came(a), came(a)}}, {Up: []int{0, 0}, Note: "b", Diff: come}}, "0 a\n1 0 0 b\n" + comeText},
	}
	for _, c := range cases {
		if text := impl.PackText(c.list); text != c.want {
			t.Errorf("%q, not %q", text, c.want)
		}
	}
	for i, d := range wrongDiffs() {
		list := []impl.Entry{{Note: "a", Diff: d}, {Up: []int{0}, Note: "b", Diff: come}}
		if text := impl.PackText(list); text != "0 a\n1 0 b\n"+comeText {
			t.Errorf("wrong changes %d: %q", i, text)
		}
	}
}

func TestPackTextOfPlacesOfTwoDigits(t *testing.T) {
	r := roomWith("- 0 0 1,2 2,1 3,4 4,3 5,6 6,5 7,8 8,7 9,10 10,9 11,12", 13)
	for place := range r.Commits {
		r.Commits[place].Sheet = nil
	}
	want := "0 ann\n1 0 ann\n2 0 ann\n3 1 2 ann\n4 2 1 ann\n5 3 4 ann\n6 4 3 ann\n7 5 6 ann\n8 6 5 ann\n9 7 8 ann\n" +
		"10 8 7 ann\n11 9 10 ann\n12 10 9 ann\n13 11 12 ann\n"
	// Two versions of the same Up are one, as their maps are the same.
	r.Commits[2].Note, want = "bob", strings.Replace(want, "2 0 ann", "2 0 bob", 1)
	if text := impl.PackText(impl.PackOf(r)); text != want {
		t.Errorf("%q, not %q", text, want)
	}
	row := mapsRoom(t, oneRow(14), strings.Repeat("a dot 0,0|", 13)+"a dot 0,0; b dot 1,1", 13)
	text := impl.PackText(impl.PackOf(row))
	if !strings.HasPrefix(text, "0 ann\na: - > a dot 0,0\n1 0 ann\n2 1 ann\n") || !strings.HasSuffix(text, "\n10 9 ann\n11 10 ann\n12 11 ann\n13 12 ann\nb: - > b dot 1,1\n") {
		t.Errorf("%q", text)
	}
	many := slices.Repeat([]impl.Entry{{Up: []int{1234}, Note: "a"}}, 3000)
	lines := strings.Split(impl.PackText(many), "\n")
	if len(lines) != 3001 || lines[9] != "9 1234 a" || lines[99] != "99 1234 a" || lines[2999] != "2999 1234 a" || lines[3000] != "" {
		t.Errorf("%d lines", len(lines))
	}
}

func TestPackTextOfManyRooms(t *testing.T) {
	for _, r := range packRooms(t) {
		want := ""
		for place, e := range wantedPack(r) {
			want += strconv.Itoa(place)
			for _, up := range e.Up {
				want += " " + strconv.Itoa(up)
			}
			want += " " + e.Note + "\n" + impl.DiffText(e.Diff)
		}
		if text := impl.PackText(impl.PackOf(r)); text != want {
			t.Fatalf("%q, not %q", text, want)
		}
	}
}

// roomyEntries are entries whose lists all lie ahead of other ones; what is behind their ends is of their room.
func roomyEntries(list []impl.Entry) []impl.Entry {
	var all []impl.Entry
	behind := impl.Entry{Up: []int{7}, Note: "behind", Diff: comeAll("behind")}
	for _, e := range append(copyEntries(list), behind, impl.Entry{Note: "far"}) {
		up := append(slices.Clone(e.Up), 91, 92)
		e.Up = up[:len(e.Up)]
		e.Diff, _ = roomyDiff(e.Diff)
		all = append(all, e)
	}
	return all[:len(list)]
}

// entryRoomOf is entries with all that is behind the ends of their lists, in new memory.
func entryRoomOf(list []impl.Entry) []impl.Entry {
	var room []impl.Entry
	for _, e := range list[:cap(list)] {
		e.Up = slices.Clone(e.Up[:cap(e.Up)])
		e.Diff = diffRoomOf(e.Diff[:cap(e.Diff)])
		room = append(room, e)
	}
	return room
}

// overwriteEntries writes over all that can be reached of entries, spare room included.
func overwriteEntries(list []impl.Entry) {
	for i, e := range list[:cap(list)] {
		for k := range e.Up[:cap(e.Up)] {
			e.Up[:cap(e.Up)][k] = -5
		}
		overwriteDiff(e.Diff)
		list[:cap(list)][i] = impl.Entry{Note: "over"}
	}
}

func entryMemories(list []impl.Entry) []memory {
	all := []memory{memoryOf("entries", list)}
	for i, e := range list[:cap(list)] {
		what := "entry " + strconv.Itoa(i)
		all = append(all, memoryOf(what+" Up", e.Up), memoryOf(what+" changes", e.Diff))
		all = append(all, sheetMemories(what+" sides", sidesOf(e.Diff[:cap(e.Diff)]))[1:]...)
	}
	return all
}

// sharedEntries are entries whose lists of one kind all lie in one piece of memory.
func sharedEntries() ([]impl.Entry, []impl.Head) {
	ups := []int{0, 1, 2, 0}
	s := sharedThings()
	d := []impl.Change{came(s[0]), came(s[1]), came(s[2]), came(s[3]), came(s[4])}
	return []impl.Entry{
		{Note: "a", Up: ups[:0], Diff: d[:2]},
		{Note: "b", Up: ups[:1], Diff: d[2:]},
		{Note: "c", Up: ups[:2], Diff: d[2:]},
		{Note: "d", Up: ups[1:3], Diff: d[:0]},
		{Note: "e", Up: ups[2:4], Diff: d[5:]},
		{Note: "f", Up: ups[3:4], Diff: d[3:4]},
	}, headsAt(4, 2, 5)
}

type packCase struct {
	list  []impl.Entry
	heads []impl.Head
}

// packCases are entries that are opened, and some that are refused, in roomy memory.
func packCases(t *testing.T) []packCase {
	t.Helper()
	shared, heads := sharedEntries()
	cases := []packCase{{shared, heads}, {wantedPack(sharedRoom()), sharedRoom().Heads}}
	for i, r := range slices.Concat(okRepos(), []impl.Repo{fullRoom(), soundRoom()}, grownRooms(t, 8), joinedRooms(t, 8)) {
		room := roomyRepo(r)
		list := wantedPack(r)
		cases = append(cases, packCase{roomyEntries(list), room.Heads}, packCase{roomyEntries(list[:len(list)/2]), room.Heads})
		for k, near := range nearEntries(list) {
			if (i+k)%29 == 0 {
				cases = append(cases, packCase{roomyEntries(near), room.Heads})
			}
		}
	}
	cases = append(cases, packCase{roomyEntries(wantedPack(soundRoom())), roomyRepo(roomWith("-", 0, 0, 0, 0)).Heads})
	return append(cases, packCase{roomyEntries(wantedPack(roomWith(oneRow(15), 0))), roomyRepo(roomWith("-", 0)).Heads}, packCase{})
}

func TestPackOfAnswersAreNewMemory(t *testing.T) {
	s := sharedThings()
	alike := impl.Repo{Commits: []impl.Commit{{Sheet: s, Note: "a"}, {Up: []int{0}, Sheet: s[:3], Note: "a"}, {Up: []int{1}, Sheet: s, Note: "a"}, {Up: []int{0}, Note: "b"}}, Heads: headsAt(2)}
	for i, r := range append(memoryRooms(), alike, roomyRepo(fullRoom())) {
		ownMemory(t, "room "+strconv.Itoa(i), entryMemories(impl.PackOf(r)), repoMemories(r))
	}
}

func TestPackOpenAnswersAreNewMemory(t *testing.T) {
	opened := 0
	for i, c := range packCases(t) {
		r, ok := impl.PackOpen(c.list, c.heads)
		given := append(entryMemories(c.list), memoryOf("given branches", c.heads))
		ownMemory(t, "case "+strconv.Itoa(i), repoMemories(r), given)
		if ok {
			opened++
		}
	}
	if shared, heads := sharedEntries(); opened < 40 {
		t.Errorf("more of the entries are to be opened: %d", opened)
	} else if _, ok := impl.PackOpen(shared, heads); !ok {
		t.Error("entries that lie in one piece of memory are refused")
	}
}

func TestPackLeavesArgumentsAlone(t *testing.T) {
	for i, c := range packCases(t) {
		was, heads := entryRoomOf(c.list), slices.Clone(c.heads[:cap(c.heads)])
		r, _ := impl.PackOpen(c.list, c.heads)
		impl.PackSize(c.list)
		impl.PackText(c.list)
		overwriteRepo(r)
		if !equalEntries(entryRoomOf(c.list), was) || !slices.Equal(c.heads[:cap(c.heads)], heads) {
			t.Fatalf("a call, or what was written into its answer, has turned case %d", i)
		}
	}
	for i, r := range memoryRooms() {
		was := repoRoomOf(r)
		overwriteEntries(impl.PackOf(r))
		if !equalRepos(repoRoomOf(r), was) {
			t.Fatalf("a call, or what was written into its answer, has turned room %d", i)
		}
	}
}

func TestPackAnswersAreNewEachTime(t *testing.T) {
	for i, c := range packCases(t) {
		first, ok := impl.PackOpen(c.list, c.heads)
		kept := copyRepo(first)
		overwriteRepo(first)
		if again, okAgain := impl.PackOpen(c.list, c.heads); !equalRepos(again, kept) || ok != okAgain {
			t.Fatalf("case %d: what was answered once comes again as it was turned: %v", i, again)
		}
	}
	for i, r := range memoryRooms() {
		first := impl.PackOf(r)
		kept := copyEntries(first)
		overwriteEntries(first)
		if again := impl.PackOf(r); !equalEntries(again, kept) {
			t.Fatalf("room %d: what was answered once comes again as it was turned: %v", i, again)
		}
	}
	// An answer does not hang on the argument any more, once it is there.
	list := roomyEntries(wantedPack(fullRoom()))
	heads := slices.Clone(fullRoom().Heads)
	r, ok := impl.PackOpen(list, heads)
	overwriteEntries(list)
	clear(heads)
	if !ok || !equalRepos(r, fullRoom()) {
		t.Errorf("the room is turned with the entries: %v", r)
	}
	room := roomyRepo(fullRoom())
	packed := impl.PackOf(room)
	overwriteRepo(room)
	if !equalEntries(packed, wantedPack(fullRoom())) {
		t.Errorf("the entries are turned with the room: %v", packed)
	}
}

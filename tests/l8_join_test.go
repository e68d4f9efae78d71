package tests

import (
	"math"
	"slices"
	"strconv"
	"strings"
	"testing"

	"loop.example/townland/impl"
)

// sheetBy reads a map with `; ` between its things.
func sheetBy(t *testing.T, text string) []impl.Feat {
	t.Helper()
	if text == "" {
		return nil
	}
	return readSheet(t, strings.ReplaceAll(text, "; ", "\n")+"\n")
}

// oneLine is the text of a map as sheetBy reads it.
func oneLine(text string) string {
	return strings.TrimSuffix(strings.ReplaceAll(text, "\n", "; "), "; ")
}

func textBy(s []impl.Feat) string { return oneLine(impl.SheetText(s)) }

// mapsRoom is a room of these Up whose maps are read from a text, with `|` between them.
func mapsRoom(t *testing.T, ups string, maps string, at ...int) impl.Repo {
	t.Helper()
	r := roomWith(ups, at...)
	for place, text := range strings.Split(maps, "|") {
		r.Commits[place].Sheet = sheetBy(t, text)
	}
	return r
}

// forked is a room in which 2 and 3, made of 1, can be made one; the map that comes is forkedJoin.
func forked(t *testing.T, at ...int) impl.Repo {
	t.Helper()
	return mapsRoom(t, "- 0 1 1", "|a dot 0,0; b dot 1,1|a dot 0,5; b dot 1,1|a dot 0,0; b dot 1,2", at...)
}

const forkedJoin = "a dot 0,5; b dot 1,2"

// filledUp is a room with versions that nobody leads to put behind all, until there are so many.
func filledUp(r impl.Repo, count int) impl.Repo {
	return turnedRepo(r, func(r *impl.Repo) {
		for len(r.Commits) < count {
			r.Commits = append(r.Commits, versionOf(100+len(r.Commits), "fill", 0))
		}
	})
}

// withVersion is a room with a version behind all.
func withVersion(r impl.Repo, c impl.Commit) impl.Repo {
	return turnedRepo(r, func(r *impl.Repo) { r.Commits = append(r.Commits, c) })
}

func headAt(r impl.Repo, i int, at int) impl.Repo {
	return turnedRepo(r, func(r *impl.Repo) { r.Heads[i].At = at })
}

// dice tell numbers that look mixed, and are the same each time.
type dice uint32

func (d *dice) below(n int) int {
	*d = *d*1664525 + 1013904223
	return int(*d>>16) % n
}

// editedOnce is a map in which one thing has come, gone or been turned; rows of points and tags are such that much of
// what two hands turn is at different places.
func editedOnce(t *testing.T, d *dice, s []impl.Feat, names []string) []impl.Feat {
	t.Helper()
	name := names[d.below(len(names))]
	f, has := impl.SheetGet(s, name)
	if has && d.below(6) == 0 {
		s, _ = impl.SheetCut(s, name)
		return s
	}
	if !has {
		f = readFeat(t, name+" line 0,0 1,1")
	}
	switch d.below(4) {
	case 0:
		f.Shape = readFeat(t, name+" line 0,0 1,1 6,6").Shape
	case 1:
		f.Shape = readFeat(t, name+" line 5,5 0,0 1,1").Shape
	default:
		f, _ = impl.FeatPut(f, []string{"k", "m", "n"}[d.below(3)], []string{"x", "y"}[d.below(2)])
	}
	if put, ok := impl.SheetPut(s, f); ok {
		return put
	}
	return s
}

// grownRooms are rooms of up to 14 versions that cross, each with the map of one ahead of it in which something is
// turned; in some of them the maps are nearly full.
func grownRooms(t *testing.T, count int) []impl.Repo {
	t.Helper()
	d := dice(11)
	var list []impl.Repo
	for i := range count {
		r, names := impl.Repo{Commits: []impl.Commit{{Note: "begin"}}}, []string{"a", "ab", "b"}
		if i%3 == 0 {
			names = manyNames(11)
			for _, name := range names[:7] {
				r.Commits[0].Sheet = append(r.Commits[0].Sheet, readFeat(t, name+" line 0,0 1,1"))
			}
		}
		for size := 4 + i%11; len(r.Commits) < size; {
			place := len(r.Commits)
			first, second := place-1-d.below(min(place, 4)), place-1-d.below(min(place, 4))
			c := impl.Commit{Up: []int{first}, Sheet: editedOnce(t, &d, r.Commits[first].Sheet, names), Note: "ann"}
			if first != second && d.below(2) == 0 {
				c.Up = append(c.Up, second)
			}
			if d.below(2) == 0 {
				c.Sheet = editedOnce(t, &d, c.Sheet, names)
			}
			if !slices.ContainsFunc(r.Commits, func(e impl.Commit) bool { return equalCommits(c, e) }) {
				r.Commits = append(r.Commits, c)
			}
		}
		for range 1 + i%4 {
			r.Heads = append(r.Heads, impl.Head{Name: branchNames()[len(r.Heads)], At: d.below(len(r.Commits))})
		}
		list = append(list, r)
	}
	return list
}

// wantedBase is asked of sets of bits.
func wantedBase(r impl.Repo, a int, b int) int {
	if count := len(r.Commits); a < 0 || b < 0 || a >= count || b >= count {
		return -1
	}
	return wantedBases(reaches(r), a, b)[0]
}

// holdBases asks every two places, and some that are none, of a room that is ok.
func holdBases(t *testing.T, r impl.Repo) {
	t.Helper()
	for a := -1; a <= len(r.Commits); a++ {
		for b := -1; b <= len(r.Commits); b++ {
			if got, want := impl.JoinBase(r, a, b), wantedBase(r, a, b); got != want {
				t.Fatalf("%v: base of %d and %d: %d, not %d", r, a, b, got, want)
			}
		}
	}
}

func TestJoinBaseOfManyRooms(t *testing.T) {
	for _, r := range slices.Concat(smallRooms(), mixedRooms(100), okRepos(), grownRooms(t, 30)) {
		holdBases(t, r)
	}
}

func TestJoinBaseLiterals(t *testing.T) {
	for _, c := range []struct {
		ups        string
		a, b, want int
	}{
		// The same, one ahead of the other, and two that are made of one.
		{"-", 0, 0, 0},
		{"- 0 1", 2, 2, 2},
		{"- 0 1", 1, 2, 1},
		{"- 0 1", 0, 2, 0},
		{"- 0 0 1,2", 1, 3, 1},
		{"- 0 0 1,2", 2, 3, 2},
		{"- 0 0", 1, 2, 0},
		{"- 0 1 1", 2, 3, 1},
		{"- 0 1 1 3", 2, 4, 1},
		// Two that cross, once and twice, and three that were last ahead of both.
		{"- 0 0 1,2 2,1", 3, 4, 2},
		{"- 0 0 1,2 1,2", 3, 4, 2},
		{"- 0 0 2,1 2,1 3 4", 5, 6, 2},
		{"- 0 0 1,2 2,1 3,4 4,3", 5, 6, 4},
		{"- 0 0 0 1,2 1,2 4,3 5,3", 6, 7, 3},
		// The greater place, also where it is behind fewer versions.
		{"- 0 1 0 2,3 3,2", 4, 5, 3},
		{"- 0 0 1 3,2 2,3", 4, 5, 3},
	} {
		r := roomWith(c.ups, 0)
		if got, back := impl.JoinBase(r, c.a, c.b), impl.JoinBase(r, c.b, c.a); got != c.want || back != c.want {
			t.Errorf("%q, %d and %d: %d, and the other way round %d, not %d", c.ups, c.a, c.b, got, back, c.want)
		}
	}
	r := crossed()
	for _, none := range []int{-1, -2, 8, 9, 13, 14, math.MinInt, math.MaxInt} {
		for _, other := range []int{0, 7, none, -1} {
			if got, back := impl.JoinBase(r, none, other), impl.JoinBase(r, other, none); got != -1 || back != -1 {
				t.Errorf("%d and %d: %d, and the other way round %d", none, other, got, back)
			}
		}
	}
}

func holdTry(t *testing.T, what string, r impl.Repo, a int, b int, want string, clashes string, wantOk bool) {
	t.Helper()
	s, c, ok := impl.JoinTry(r, a, b)
	if textBy(s) != want || impl.ClashText(c) != clashes || ok != wantOk || !ok && len(s)+len(c) > 0 {
		t.Errorf("%s: %q %q %v, not %q %q %v", what, textBy(s), impl.ClashText(c), ok, want, clashes, wantOk)
	}
}

func TestJoinTryLiterals(t *testing.T) {
	r := forked(t, 2, 3)
	holdTry(t, "nothing clashes", r, 2, 3, forkedJoin, "", true)
	holdTry(t, "the other way round", r, 3, 2, forkedJoin, "", true)
	holdTry(t, "both are one", r, 2, 2, "a dot 0,5; b dot 1,1", "", true)
	holdTry(t, "the first is ahead", r, 1, 3, "a dot 0,0; b dot 1,2", "", true)
	holdTry(t, "the second is ahead", r, 3, 1, "a dot 0,0; b dot 1,2", "", true)
	holdTry(t, "the map with nothing", r, 0, 0, "", "", true)
	holdTry(t, "of the map with nothing", r, 0, 2, "a dot 0,5; b dot 1,1", "", true)

	// Each clash has a map with it, which is not the same from either hand.
	clash := mapsRoom(t, "- 0 0", "a dot 0,0; b dot 0,0 k=x|a dot 1,1; b dot 0,0 k=y; c dot 1,1|a dot 2,2; c dot 2,2; d dot 4,4", 0)
	holdTry(t, "a clash", clash, 1, 2, "a dot 1,1; b dot 0,0 k=y; c dot 1,1; d dot 4,4", "a: shape\nb: gone\nc: both\n", true)
	holdTry(t, "a clash, the other way round", clash, 2, 1, "a dot 2,2; b dot 0,0 k=y; c dot 2,2; d dot 4,4", "a: shape\nb: gone\nc: both\n", true)

	// What was last ahead of both is asked by the first of two: by the other one these clash, or do not.
	for _, c := range []struct{ third, want, clashes string }{
		{"a dot 2,2", "a dot 4,4", ""},
		{"a dot 1,1", "a dot 1,1", "a: shape\n"},
		{"a dot 0,0", "a dot 0,0", "a: shape\n"},
	} {
		cross := mapsRoom(t, "- 0 0 1,2 2,1", "a dot 0,0|a dot 1,1|a dot 2,2|"+c.third+"|a dot 4,4", 0)
		holdTry(t, "crossed, with "+c.third, cross, 3, 4, c.want, c.clashes, true)
	}

	full := mapsRoom(t, "- 0 0 0 2", "|a dot 0,0; b dot 0,0; c dot 0,0; d dot 0,0; e dot 0,0|f dot 0,0; g dot 0,0; h dot 0,0"+
		"|f dot 0,0; g dot 0,0; h dot 0,0; i dot 0,0|e dot 9,9; f dot 0,0; g dot 0,0; h dot 0,0; i dot 0,0", 0)
	holdTry(t, "just eight", full, 1, 2, "a dot 0,0; b dot 0,0; c dot 0,0; d dot 0,0; e dot 0,0; f dot 0,0; g dot 0,0; h dot 0,0", "", true)
	holdTry(t, "nine", full, 1, 3, "", "", false)
	holdTry(t, "nine, the other way round", full, 3, 1, "", "", false)
	holdTry(t, "nine, and a clash", full, 1, 4, "", "", false)
	for _, none := range []int{-1, 5, 14, math.MinInt, math.MaxInt} {
		holdTry(t, "no first", full, none, 1, "", "", false)
		holdTry(t, "no second", full, 1, none, "", "", false)
		holdTry(t, "neither", full, none, none, "", "", false)
	}
}

func TestJoinTryOfManyRooms(t *testing.T) {
	ends := map[string]int{}
	for _, r := range slices.Concat(grownRooms(t, 100), okRepos()) {
		for a := -1; a <= len(r.Commits); a++ {
			for b := -1; b <= len(r.Commits); b++ {
				text, told, end := "", "", "none"
				if base := wantedBase(r, a, b); base >= 0 {
					var ok bool
					text, told, ok = wantedSheet(r.Commits[base].Sheet, r.Commits[a].Sheet, r.Commits[b].Sheet)
					end = "ok " + strconv.FormatBool(ok) + " clash " + strconv.FormatBool(told != "")
				}
				ends[end]++
				holdTry(t, "many rooms", r, a, b, oneLine(text), told, strings.HasPrefix(end, "ok true"))
			}
		}
	}
	if ends["none"] < 100 || ends["ok true clash false"] < 100 || ends["ok true clash true"] < 100 || ends["ok false clash false"] < 20 {
		t.Errorf("the rooms are to end in all ways: %v", ends)
	}
}

// holdHeads asks one join: the room, what clashes, and the code.
func holdHeads(t *testing.T, what string, r impl.Repo, into string, from string, note string, want impl.Repo, clashes string, code int) {
	t.Helper()
	got, c, end := impl.JoinHeads(r, into, from, note)
	holdEnd(t, what, got, end, want, code)
	if impl.ClashText(c) != clashes {
		t.Errorf("%s: what clashes is %q, not %q", what, impl.ClashText(c), clashes)
	}
}

func TestJoinHeadsIsFine(t *testing.T) {
	join := func(what string, r impl.Repo, into string, from string, note string, place int, made ...impl.Commit) {
		t.Helper()
		i := slices.IndexFunc(r.Heads, func(h impl.Head) bool { return h.Name == into })
		want := headAt(r, i, place)
		want.Commits = append(want.Commits, made...)
		holdHeads(t, what, r, into, from, note, want, "", impl.JoinFine)
	}
	both := sheetBy(t, forkedJoin)
	made := impl.Commit{Up: []int{2, 3}, Sheet: both, Note: "join"}
	back := impl.Commit{Up: []int{3, 2}, Sheet: both, Note: "join"}
	r := forked(t, 2, 3, 1, 2)
	join("behind all", r, "main", "cat", "join", 4, made)
	join("the other way round", r, "cat", "main", "join", 4, back)
	join("another branch at the version of the second", headAt(r, 2, 3), "main", "bob", "join", 4, made)
	join("a branch that is the last one", r, "dan", "cat", "join", 4, made)
	join("the note that all have", r, "main", "cat", "ann", 4, impl.Commit{Up: []int{2, 3}, Sheet: both, Note: "ann"})
	join("the 14th", filledUp(r, 13), "main", "cat", "join", 13, made)

	// The map that comes is that of one of the two, or of what was ahead of both: there is a version all the same.
	alike := mapsRoom(t, "- 0 0 1", "a dot 0,0|a dot 1,1|a dot 1,1; b dot 0,0|a dot 1,1; b dot 0,0", 1, 2, 3)
	join("the map of the second", alike, "main", "cat", "join", 4, impl.Commit{Up: []int{1, 2}, Sheet: alike.Commits[2].Sheet, Note: "join"})
	join("the map of both", alike, "cat", "bob", "join", 4, impl.Commit{Up: []int{2, 3}, Sheet: alike.Commits[2].Sheet, Note: "join"})
	none := mapsRoom(t, "- 0 0", "a dot 0,0||", 1, 2)
	none.Commits[2].Note = "bob"
	join("the map with nothing", none, "main", "cat", "ann", 3, impl.Commit{Up: []int{1, 2}, Note: "ann"})
	eight := mapsRoom(t, "- 0 0", "|a dot 0,0; b dot 0,0; c dot 0,0; d dot 0,0; e dot 0,0|e dot 0,0; f dot 0,0; g dot 0,0; h dot 0,0", 1, 2)
	join("just eight things", eight, "main", "cat", "join", 3, impl.Commit{Up: []int{1, 2}, Note: "join",
		Sheet: sheetBy(t, "a dot 0,0; b dot 0,0; c dot 0,0; d dot 0,0; e dot 0,0; f dot 0,0; g dot 0,0; h dot 0,0")})

	// Two that were last ahead of both: by 2 nothing clashes, by 1 it would.
	cross := mapsRoom(t, "- 0 0 1,2 2,1", "a dot 0,0|a dot 1,1|a dot 2,2|a dot 2,2|a dot 4,4", 3, 4)
	join("crossed", cross, "main", "cat", "join", 5, impl.Commit{Up: []int{3, 4}, Sheet: cross.Commits[4].Sheet, Note: "join"})
	join("crossed, the other way round", cross, "cat", "main", "join", 5, impl.Commit{Up: []int{4, 3}, Sheet: cross.Commits[4].Sheet, Note: "join"})
}

func TestJoinHeadsWhereThereIsSuchAVersion(t *testing.T) {
	both := sheetBy(t, forkedJoin)
	made := impl.Commit{Up: []int{2, 3}, Sheet: both, Note: "join"}
	there := withVersion(forked(t, 2, 3, 4, 4), made)
	for _, r := range []impl.Repo{there, filledUp(there, 13), filledUp(there, 14), withVersion(filledUp(forked(t, 2, 3), 13), made)} {
		place := slices.IndexFunc(r.Commits, func(c impl.Commit) bool { return equalCommits(c, made) })
		holdHeads(t, "there is such a version", r, "main", "cat", "join", headAt(r, 0, place), "", impl.JoinFine)
	}
	holdHeads(t, "no branch is at it", headAt(headAt(there, 2, 0), 3, 0), "main", "cat", "join",
		headAt(headAt(headAt(there, 0, 4), 2, 0), 3, 0), "", impl.JoinFine)
	for i, near := range []impl.Commit{
		{Up: []int{3, 2}, Sheet: both, Note: "join"},
		{Up: []int{2}, Sheet: both, Note: "join"},
		{Up: []int{3}, Sheet: both, Note: "join"},
		{Up: []int{1, 3}, Sheet: both, Note: "join"},
		{Up: []int{2, 1}, Sheet: both, Note: "join"},
		{Up: []int{2, 3}, Sheet: both, Note: "joins"},
		{Up: []int{2, 3}, Sheet: both[:1], Note: "join"},
	} {
		what := "one that is nearly such, " + strconv.Itoa(i)
		r := withVersion(forked(t, 2, 3), near)
		holdHeads(t, what, r, "main", "cat", "join", headAt(withVersion(r, made), 0, 5), "", impl.JoinFine)
		full := filledUp(r, 14)
		holdHeads(t, what+", with 14 versions", full, "main", "cat", "join", full, "", impl.JoinFull)
	}
}

// Where one is ahead of the other nothing is made, whatever the maps are.
func TestJoinHeadsOfOneAheadOfTheOther(t *testing.T) {
	for _, r := range []impl.Repo{
		forked(t, 3, 1, 3, 0),
		filledUp(forked(t, 3, 1, 3, 0), 14),
		roomWith("- 0 0 1,2", 3, 2, 3, 0),
		roomWith("- 0 0 1,2", 3, 1, 3, 0),
		roomWith(oneRow(14), 13, 5, 13, 0),
		mapsRoom(t, "- 0 1", "||", 2, 1, 2, 0),
	} {
		for _, note := range []string{"join", "ann", "fill"} {
			same := func(what string, into string, from string) {
				t.Helper()
				holdHeads(t, what, r, into, from, note, r, "", impl.JoinSame)
			}
			on := func(what string, i int, from string, at int) {
				t.Helper()
				holdHeads(t, what, r, branchNames()[i], from, note, headAt(r, i, at), "", impl.JoinOn)
			}
			same("the second is ahead of the first", "main", "cat")
			same("the second is far ahead of the first", "main", "dan")
			same("the second is ahead of a branch of the same version", "bob", "cat")
			same("two branches at one version", "main", "bob")
			same("two branches at one version, the other way round", "bob", "main")
			for _, name := range branchNames()[:4] {
				same("one name twice", name, name)
			}
			on("the first is ahead of the second", 1, "main", r.Heads[0].At)
			on("the first is ahead of another branch of that version", 1, "bob", r.Heads[0].At)
			on("the first is far ahead of the second", 3, "main", r.Heads[0].At)
			on("the first is the first version", 3, "cat", r.Heads[1].At)
		}
	}
}

func TestJoinHeadsIsFull(t *testing.T) {
	full := func(what string, r impl.Repo) {
		t.Helper()
		holdHeads(t, what, r, "main", "cat", "join", r, "", impl.JoinFull)
		holdHeads(t, what+", the other way round", r, "cat", "main", "join", r, "", impl.JoinFull)
	}
	full("14 versions", filledUp(forked(t, 2, 3), 14))
	full("14 versions and four branches", filledUp(forked(t, 2, 3, 0, 1), 14))
	five := "a dot 0,0; b dot 0,0; c dot 0,0; d dot 0,0; e dot 0,0"
	nine := mapsRoom(t, "- 0 0", "|"+five+"|f dot 0,0; g dot 0,0; h dot 0,0; i dot 0,0", 1, 2)
	full("nine things", nine)
	full("nine things, and 14 versions", filledUp(nine, 14))
	full("nine things, of which one clashes", mapsRoom(t, "- 0 0", "|"+five+"|a dot 1,1; f dot 0,0; g dot 0,0; h dot 0,0; i dot 0,0", 1, 2))
	// A thing that one dropped and the other turned is the ninth.
	full("nine things, of which one is gone", mapsRoom(t, "- 0 0", "a dot 0,0|b dot 0,0; c dot 0,0; d dot 0,0; e dot 0,0|"+
		"a dot 1,1; f dot 0,0; g dot 0,0; h dot 0,0; i dot 0,0", 1, 2))
}

func TestJoinHeadsClashes(t *testing.T) {
	clash := func(what string, maps string, clashes string) {
		t.Helper()
		r := mapsRoom(t, "- 0 0", maps, 1, 2, 1, 0)
		holdHeads(t, what, r, "main", "cat", "join", r, clashes, impl.JoinClash)
		holdHeads(t, what+", the other way round", r, "cat", "main", "join", r, clashes, impl.JoinClash)
		full := filledUp(r, 14)
		holdHeads(t, what+", with 14 versions", full, "main", "cat", "join", full, clashes, impl.JoinClash)
		s, _, _ := impl.JoinTry(r, 1, 2)
		there := withVersion(r, impl.Commit{Up: []int{1, 2}, Sheet: s, Note: "join"})
		holdHeads(t, what+", and there is such a version", there, "main", "cat", "join", there, clashes, impl.JoinClash)
	}
	clash("a shape", "a dot 0,0|a dot 1,1|a dot 2,2", "a: shape\n")
	clash("a tag", "a dot 0,0|a dot 0,0 k=x|a dot 0,0 k=y", "a: tag k\n")
	clash("one that is gone", "a dot 0,0; b dot 0,0|a dot 1,1|b dot 1,1", "a: gone\nb: gone\n")
	clash("one that both added", "|a dot 0,0|a dot 1,1", "a: both\n")
	clash("too many tags", "a dot 0,0|a dot 0,0 a=x b=x c=x|a dot 0,0 d=x e=x", "a: much\n")
	clash("beside what does not", "a dot 0,0; b dot 0,0|a dot 1,1; b dot 3,3; c dot 1,1|a dot 2,2; b dot 0,0; d dot 1,1", "a: shape\n")
	clash("several of one thing, the shape first", "a dot 0,0 b=x|a dot 1,1 a=x b=y z=x|a dot 2,2 a=y z=y", "a: shape\na: tag a\na: tag b\na: tag z\n")
	clash("all by their names", "a dot 0,0; ab dot 0,0 z=x; b dot 0,0; z dot 0,0|a dot 1,1; aa dot 1,1; ab dot 1,1 a=x z=y; z dot 0,0 a=x b=x c=x|"+
		"a dot 2,2; aa dot 2,2; ab dot 2,2 a=y z=x; b dot 2,2; z dot 0,0 d=x e=x",
		"a: shape\naa: both\nab: shape\nab: tag a\nb: gone\nz: much\n")
	// Two that were last ahead of both: by 2 it clashes, by 1 it would not.
	cross := mapsRoom(t, "- 0 0 1,2 2,1", "a dot 0,0|a dot 1,1|a dot 2,2|a dot 1,1|a dot 4,4", 3, 4)
	holdHeads(t, "crossed", cross, "main", "cat", "join", cross, "a: shape\n", impl.JoinClash)
}

// noBranches are names that no branch of branchNames has.
func noBranches() []string {
	return append(wrongWords(), "eve", "mai", "mainx", "Main", "main ", "ann", "join")
}

func TestJoinHeadsOfNoBranch(t *testing.T) {
	clash := mapsRoom(t, "- 0 0", "|a dot 0,0|a dot 1,1", 1, 2)
	nine := mapsRoom(t, "- 0 0", "|a dot 0,0; b dot 0,0; c dot 0,0; d dot 0,0; e dot 0,0|f dot 0,0; g dot 0,0; h dot 0,0; i dot 0,0", 1, 2)
	begun, _ := impl.RepoNew("main")
	for _, r := range []impl.Repo{forked(t, 2, 3), filledUp(forked(t, 2, 3), 14), forked(t, 2, 2, 1, 3), clash, nine, begun} {
		for _, name := range noBranches() {
			none := func(what string, into string, from string) {
				t.Helper()
				holdHeads(t, what, r, into, from, "join", r, "", impl.JoinNone)
			}
			none("no first branch", name, "main")
			none("no second branch", "main", name)
			none("neither", name, "eve")
			none("neither, and one name", name, name)
		}
	}
}

func TestJoinHeadsOfWrongForm(t *testing.T) {
	clash := mapsRoom(t, "- 0 0", "|a dot 0,0|a dot 1,1", 1, 2)
	for _, r := range []impl.Repo{forked(t, 2, 3), filledUp(forked(t, 2, 3), 14), forked(t, 2, 2), forked(t, 2, 1), forked(t, 1, 2), clash} {
		for _, note := range wrongWords() {
			for _, names := range [][2]string{{"main", "cat"}, {"cat", "main"}, {"main", "main"}, {"main", "eve"}, {"eve", "main"}, {"eve", "eve"}, {"", "No"}} {
				holdHeads(t, "no word of a note", r, names[0], names[1], note, impl.Repo{}, "", impl.JoinForm)
			}
		}
	}
}

func TestJoinNotOkTellsNothing(t *testing.T) {
	names := []string{"main", "cat", "bob", "eve", ""}
	for _, w := range wrongRepos() {
		for _, into := range names {
			for _, from := range names {
				for _, note := range []string{"join", "ann", "", "No"} {
					if x, clashes, code := impl.JoinHeads(w.r, into, from, note); code != impl.JoinForm || !isNoRepo(x) || len(clashes) > 0 {
						t.Errorf("%s: %d, or there is a room, or clashes", w.what, code)
					}
				}
			}
		}
		for a := -1; a < 6; a++ {
			for b := -1; b < 6; b++ {
				if base := impl.JoinBase(w.r, a, b); base != -1 {
					t.Errorf("%s: base of %d and %d: %d", w.what, a, b, base)
				}
				holdTry(t, w.what, w.r, a, b, "", "", false)
			}
		}
	}
}

// wantedHeads is what JoinHeads is asked for, made of sets of bits and texts; the room and the note are ok.
func wantedHeads(t *testing.T, r impl.Repo, into string, from string, note string) (impl.Repo, string, int) {
	t.Helper()
	i := slices.IndexFunc(r.Heads, func(h impl.Head) bool { return h.Name == into })
	k := slices.IndexFunc(r.Heads, func(h impl.Head) bool { return h.Name == from })
	if i < 0 || k < 0 {
		return r, "", impl.JoinNone
	}
	a, b, reach := r.Heads[i].At, r.Heads[k].At, reaches(r)
	if reach[a]>>b&1 == 1 {
		return r, "", impl.JoinSame
	}
	if reach[b]>>a&1 == 1 {
		return headAt(r, i, b), "", impl.JoinOn
	}
	text, told, ok := wantedSheet(r.Commits[wantedBase(r, a, b)].Sheet, r.Commits[a].Sheet, r.Commits[b].Sheet)
	if !ok {
		return r, "", impl.JoinFull
	}
	if told != "" {
		return r, told, impl.JoinClash
	}
	made := impl.Commit{Up: []int{a, b}, Sheet: readSheet(t, text), Note: note}
	if place := slices.IndexFunc(r.Commits, func(c impl.Commit) bool { return equalCommits(c, made) }); place >= 0 {
		return headAt(r, i, place), "", impl.JoinFine
	}
	if len(r.Commits) == 14 {
		return r, "", impl.JoinFull
	}
	return headAt(withVersion(r, made), i, len(r.Commits)), "", impl.JoinFine
}

// holdJustBoth says that what one hand alone turned of a map is turned, and what neither turned is not.
func holdJustBoth(t *testing.T, base []impl.Feat, a []impl.Feat, b []impl.Feat, joined []impl.Feat) {
	t.Helper()
	byA, byB, byBoth := impl.DiffOf(base, a), impl.DiffOf(base, b), impl.DiffOf(base, joined)
	for _, name := range namesOf(base, a, b, joined) {
		first, isA := changeAt(byA, name)
		second, isB := changeAt(byB, name)
		got, is := changeAt(byBoth, name)
		want := first
		if isB {
			want = second
		}
		if isA != isB && (!is || !equalDiffs([]impl.Change{got}, []impl.Change{want})) || !isA && !isB && is {
			t.Fatalf("%q %q %q: %s is turned otherwise: %q", textBy(base), textBy(a), textBy(b), name, textBy(joined))
		}
	}
}

// holdMade is promise 8, asked of a join that was fine: what is made has both ahead of it, and just what both made.
func holdMade(t *testing.T, r impl.Repo, x impl.Repo, into string, from string, note string) {
	t.Helper()
	a, b, at := impl.RepoAt(r, into), impl.RepoAt(r, from), impl.RepoAt(x, into)
	s, clashes, ok := impl.JoinTry(r, a, b)
	if !impl.RepoOk(x) || at < 0 || !equalCommits(x.Commits[at], impl.Commit{Up: []int{a, b}, Sheet: s, Note: note}) || len(clashes) > 0 || !ok {
		t.Fatalf("%v: %q and %q: another version is made: %v", r, into, from, x)
	}
	if !impl.RepoAhead(x, a, at) || !impl.RepoAhead(x, b, at) || impl.RepoAhead(x, at, a) || impl.RepoAhead(x, at, b) {
		t.Fatalf("%v: %q and %q: not both are ahead of what is made: %v", r, into, from, x)
	}
	if more := len(x.Commits) - len(r.Commits); more != 0 && (more != 1 || at != len(r.Commits)) {
		t.Fatalf("%v: %q and %q: not one version more: %v", r, into, from, x)
	}
	holdJustBoth(t, r.Commits[impl.JoinBase(r, a, b)].Sheet, r.Commits[a].Sheet, r.Commits[b].Sheet, s)
	// Once more there is nothing to join; and the other way round the second branch is just put at it.
	holdHeads(t, "joined twice in a row", x, into, from, note, x, "", impl.JoinSame)
	k := slices.IndexFunc(x.Heads, func(h impl.Head) bool { return h.Name == from })
	holdHeads(t, "joined the other way round after it", x, from, into, note, headAt(x, k, at), "", impl.JoinOn)
}

// holdTurned is promise 8, asked of any join: no version is turned, and of the branches at most the At of the first.
func holdTurned(t *testing.T, r impl.Repo, x impl.Repo, into string, clashes []impl.Clash, code int) {
	t.Helper()
	if (len(clashes) > 0) != (code == impl.JoinClash) {
		t.Fatalf("%v: clashes with code %d: %v", r, code, clashes)
	}
	turns := code == impl.JoinFine || code == impl.JoinOn
	if !turns && !equalRepos(x, r) || code != impl.JoinFine && len(x.Commits) != len(r.Commits) {
		t.Fatalf("%v: turned with code %d: %v", r, code, x)
	}
	if !slices.EqualFunc(x.Commits[:len(r.Commits)], r.Commits, equalCommits) || len(x.Heads) != len(r.Heads) {
		t.Fatalf("%v: a version or branch is turned: %v", r, x)
	}
	for i, h := range r.Heads {
		if x.Heads[i] != h && (h.Name != into || x.Heads[i].Name != into) {
			t.Fatalf("%v: branch %s is turned: %v", r, h.Name, x)
		}
	}
}

func holdJoin(t *testing.T, r impl.Repo, into string, from string, note string) (impl.Repo, int) {
	t.Helper()
	x, clashes, code := impl.JoinHeads(r, into, from, note)
	want, told, wantCode := wantedHeads(t, r, into, from, note)
	if !equalRepos(x, want) || impl.ClashText(clashes) != told || code != wantCode {
		t.Fatalf("%v: %q and %q: %v %v %d, not %v %q %d", r, into, from, x, clashes, code, want, told, wantCode)
	}
	holdTurned(t, r, x, into, clashes, code)
	if code == impl.JoinFine {
		holdMade(t, r, x, into, from, note)
	}
	return x, code
}

func TestJoinHeadsOfManyRooms(t *testing.T) {
	var codes [7]int
	several := 0
	for _, r := range slices.Concat(grownRooms(t, 800), mixedRooms(60), okRepos()) {
		for _, into := range branchNames() {
			for _, from := range branchNames() {
				_, code := holdJoin(t, r, into, from, "ann")
				codes[code]++
				if code == impl.JoinFine && len(impl.RepoBases(r, impl.RepoAt(r, into), impl.RepoAt(r, from))) > 1 {
					several++
				}
			}
		}
	}
	if slices.Min(codes[:impl.JoinForm]) < 50 || codes[impl.JoinForm] != 0 || several < 10 {
		t.Errorf("the rooms are to end in all ways: %v %d", codes, several)
	}
}

// Every two versions of a room, and again with the version that comes of them in it, and in a full room.
func TestJoinHeadsOfAllVersions(t *testing.T) {
	again := 0
	for _, r := range grownRooms(t, 60) {
		for a := range r.Commits {
			for b := range r.Commits {
				two := impl.Repo{Commits: r.Commits, Heads: headsAt(a, b, a, b)}
				x, code := holdJoin(t, two, "main", "cat", "join")
				if code != impl.JoinFine {
					continue
				}
				again++
				for _, full := range []impl.Repo{headAt(x, 0, a), filledUp(headAt(x, 0, a), 14)} {
					if y, _ := holdJoin(t, full, "main", "cat", "join"); len(y.Commits) != len(full.Commits) || impl.RepoAt(y, "main") != impl.RepoAt(x, "main") {
						t.Fatalf("%v: there is such a version, and another one is made: %v", full, y)
					}
				}
				if len(two.Commits) < 13 {
					holdJoin(t, filledUp(two, 13), "main", "cat", "join")
				}
				if _, code := holdJoin(t, filledUp(two, 14), "main", "cat", "join"); code != impl.JoinFull {
					t.Fatalf("%v: a 15th version: %d", two, code)
				}
			}
		}
	}
	if again < 100 {
		t.Errorf("more of the versions are to be made one: %d", again)
	}
}

// Two branches joined both ways from the same two versions have crossed; what each turns then comes to the other.
func TestJoinHeadsThatCross(t *testing.T) {
	r, code := holdJoin(t, forked(t, 2, 3, 3), "main", "cat", "join")
	x, other := holdJoin(t, r, "bob", "main", "join")
	if code != impl.JoinFine || other != impl.JoinOn || impl.RepoAt(x, "bob") != 4 {
		t.Fatal(code, other)
	}
	r = turnedRepo(r, func(r *impl.Repo) { r.Heads = append(r.Heads, impl.Head{Name: "dan", At: 2}) })
	r, code = holdJoin(t, r, "bob", "dan", "join")
	if code != impl.JoinFine || !slices.Equal(r.Commits[5].Up, []int{3, 2}) || !slices.Equal(impl.RepoBases(r, 4, 5), []int{3, 2}) {
		t.Fatal(code, r)
	}
	r, _ = impl.RepoAdd(r, "main", sheetBy(t, "a dot 7,7; b dot 1,2"), "ann")
	r, _ = impl.RepoAdd(r, "bob", sheetBy(t, "a dot 0,5; b dot 1,2; c dot 8,8"), "bob")
	// By 3, the first base, the second hand too has turned a.
	holdHeads(t, "crossed", r, "main", "bob", "join", r, "a: shape\n", impl.JoinClash)
	r, _ = impl.RepoAdd(r, "main", sheetBy(t, "a dot 0,0; b dot 1,9"), "ann")
	r, code = holdJoin(t, r, "main", "bob", "join")
	if code != impl.JoinFine || textBy(r.Commits[impl.RepoAt(r, "main")].Sheet) != "a dot 0,5; b dot 1,9; c dot 8,8" {
		t.Fatal(code, r)
	}
}

// Many hands on one room: maps are turned, branches made, dropped and joined, and what nobody leads to is swept.
func TestJoinOfManyHands(t *testing.T) {
	r := roomWith("-", 0, 0, 0, 0)
	d := dice(5)
	var codes [7]int
	for i := range 3000 {
		name, other := branchNames()[d.below(4)], branchNames()[d.below(4)]
		switch d.below(8) {
		case 0, 1, 2:
			if at := impl.RepoAt(r, name); at >= 0 {
				r, _ = impl.RepoAdd(r, name, editedOnce(t, &d, r.Commits[at].Sheet, []string{"a", "ab", "b"}), "ann")
			}
		case 3:
			r, _ = impl.RepoDrop(r, name)
			r, _ = impl.RepoBranch(r, name, other)
		default:
			var code int
			r, code = holdJoin(t, r, name, other, "join")
			codes[code]++
		}
		if len(r.Commits) == 14 && d.below(8) == 0 {
			r = impl.RepoSweep(r)
		}
		if len(r.Commits) == 14 && d.below(8) == 0 {
			r = roomWith("-", 0, 0, 0, 0)
		}
		if !impl.RepoOk(r) {
			t.Fatalf("step %d: %v", i, r)
		}
	}
	if slices.Min(codes[:impl.JoinForm]) < 20 || codes[impl.JoinForm] != 0 {
		t.Errorf("the joins are to end in all ways: %v", codes)
	}
}

// joinRooms are rooms in which joins end with every code, and some that are not ok.
func joinRooms(t *testing.T) []impl.Repo {
	t.Helper()
	s := sharedThings()
	shared := impl.Repo{Commits: []impl.Commit{{Note: "a"}, {Up: []int{0}, Sheet: s[:3], Note: "b"}, {Up: []int{0}, Sheet: s[3:], Note: "c"}}, Heads: headsAt(1, 2, 0)}
	made := impl.Commit{Up: []int{2, 3}, Sheet: sheetBy(t, forkedJoin), Note: "new"}
	list := []impl.Repo{shared, sharedRoom()}
	for _, r := range slices.Concat([]impl.Repo{
		shared,
		forked(t, 2, 3, 1, 0),
		filledUp(forked(t, 2, 3), 13),
		filledUp(forked(t, 2, 3, 1, 0), 14),
		withVersion(forked(t, 2, 3), made),
		withVersion(filledUp(forked(t, 2, 3), 13), made),
		mapsRoom(t, "- 0 0", "a dot 0,0 k=x; b dot 0,0|a dot 1,1 k=y; c dot 1,1|a dot 2,2 k=z; b dot 2,2; c dot 2,2", 1, 2),
		mapsRoom(t, "- 0 0", "|a dot 0,0; b dot 0,0; c dot 0,0; d dot 0,0; e dot 0,0|f dot 0,0; g dot 0,0; h dot 0,0; i dot 0,0", 1, 2),
		mapsRoom(t, "- 0 0", "a dot 0,0|b dot 0,0|", 1, 2),
	}, grownRooms(t, 24), okRepos()) {
		list = append(list, roomyRepo(r))
	}
	for i, w := range wrongRepos() {
		if i%9 == 0 && len(w.r.Commits) < 20 && len(w.r.Heads) < 20 {
			list = append(list, roomyRepo(w.r))
		}
	}
	return list
}

// headsAnswer is what one join answers.
type headsAnswer struct {
	what    string
	r       impl.Repo
	clashes []impl.Clash
	code    int
}

// headsAnswers are the answers of all joins of a room.
func headsAnswers(r impl.Repo) []headsAnswer {
	var list []headsAnswer
	for _, into := range branchNames() {
		for _, from := range branchNames() {
			for _, note := range []string{"new", "No"} {
				x, clashes, code := impl.JoinHeads(r, into, from, note)
				list = append(list, headsAnswer{into + " of " + from + " " + note, x, clashes, code})
			}
		}
	}
	return list
}

func TestJoinAnswersAreNewMemory(t *testing.T) {
	var codes [7]int
	for i, r := range joinRooms(t) {
		given := repoMemories(r)
		for _, a := range headsAnswers(r) {
			codes[a.code]++
			ownMemory(t, "room "+strconv.Itoa(i)+" "+a.what, append(repoMemories(a.r), memoryOf("clashes", a.clashes)), given)
		}
		for a := range r.Commits {
			for b := range r.Commits {
				s, clashes, _ := impl.JoinTry(r, a, b)
				ownMemory(t, "room "+strconv.Itoa(i)+" try", append(sheetMemories("try", s), memoryOf("clashes", clashes)), given)
			}
		}
	}
	if slices.Min(codes[:]) == 0 {
		t.Errorf("the rooms are to end in all ways: %v", codes)
	}
}

func TestJoinLeavesTheRoomAlone(t *testing.T) {
	for i, r := range joinRooms(t) {
		was := repoRoomOf(r)
		answers := headsAnswers(r)
		for a := range r.Commits {
			impl.JoinBase(r, a, 1)
			s, _, _ := impl.JoinTry(r, a, 2)
			overwriteSheet(s)
		}
		for _, a := range answers {
			overwriteRepo(a.r)
		}
		if !equalRepos(repoRoomOf(r), was) {
			t.Fatalf("a call, or what was written into its answer, has turned room %d", i)
		}
	}
}

func TestJoinHeadsAnswersAreNewEachTime(t *testing.T) {
	for i, r := range joinRooms(t) {
		first := headsAnswers(r)
		var rooms []impl.Repo
		var clashes [][]impl.Clash
		for _, a := range first {
			rooms, clashes = append(rooms, copyRepo(a.r)), append(clashes, slices.Clone(a.clashes))
		}
		for _, a := range first {
			overwriteRepo(a.r)
			for k := range a.clashes[:cap(a.clashes)] {
				a.clashes[:cap(a.clashes)][k] = impl.Clash{Id: "over", What: "over"}
			}
		}
		for n, a := range headsAnswers(r) {
			if !equalRepos(a.r, rooms[n]) || !slices.Equal(a.clashes, clashes[n]) || a.code != first[n].code {
				t.Fatalf("room %d, %s: what was answered once comes again as it was turned: %v %v", i, a.what, a.r, a.clashes)
			}
		}
	}
}

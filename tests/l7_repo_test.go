package tests

import (
	"math"
	"math/bits"
	"slices"
	"strconv"
	"strings"
	"testing"
	"unsafe"

	"loop.example/townland/impl"
)

// markSheet is a map that no other mark has.
func markSheet(mark int) []impl.Feat {
	return []impl.Feat{
		featOf("a", shapeOf(impl.ShapeLine, pt(mark, 0), pt(mark, 1)), tag("k", "x")),
		featOf("b", shapeOf(impl.ShapeDot, pt(0, mark)), tag("k", "x"), tag("m", "y")),
	}
}

func versionOf(mark int, note string, up ...int) impl.Commit {
	return impl.Commit{Up: up, Sheet: markSheet(mark), Note: note}
}

// branchNames are not in the order of their bytes; one more than a room may have.
func branchNames() []string { return []string{"main", "cat", "bob", "dan", "eve"} }

func headsAt(at ...int) []impl.Head {
	var heads []impl.Head
	for i, place := range at {
		heads = append(heads, impl.Head{Name: branchNames()[i], At: place})
	}
	return heads
}

// placesOf reads places with commas between; `-` is none.
func placesOf(text string) []int {
	var places []int
	for word := range strings.SplitSeq(text, ",") {
		if place, err := strconv.Atoi(word); err == nil {
			places = append(places, place)
		}
	}
	return places
}

// roomWith is a room whose versions have these Up, a word for each, and each a map of its own; the branches main,
// cat, bob and dan are at these places.
func roomWith(ups string, at ...int) impl.Repo {
	r := impl.Repo{Heads: headsAt(at...)}
	for place, word := range strings.Fields(ups) {
		r.Commits = append(r.Commits, versionOf(place, "ann", placesOf(word)...))
	}
	return r
}

// oneRow is the Up of so many versions, each behind the one ahead of it.
func oneRow(count int) string {
	row := "-"
	for place := 1; place < count; place++ {
		row += " " + strconv.Itoa(place-1)
	}
	return row
}

func copyCommit(c impl.Commit) impl.Commit {
	return impl.Commit{Up: append([]int(nil), c.Up...), Sheet: copySheet(c.Sheet), Note: c.Note}
}

func copyRepo(r impl.Repo) impl.Repo {
	kept := impl.Repo{Heads: append([]impl.Head(nil), r.Heads...)}
	for _, c := range r.Commits {
		kept.Commits = append(kept.Commits, copyCommit(c))
	}
	return kept
}

func equalCommits(a impl.Commit, b impl.Commit) bool {
	return slices.Equal(a.Up, b.Up) && equalSheets(a.Sheet, b.Sheet) && a.Note == b.Note
}

// equalRepos is written out here, so that RepoSame is not asked about itself.
func equalRepos(a impl.Repo, b impl.Repo) bool {
	return slices.EqualFunc(a.Commits, b.Commits, equalCommits) && slices.Equal(a.Heads, b.Heads)
}

func isNoRepo(r impl.Repo) bool { return len(r.Commits) == 0 && len(r.Heads) == 0 }

// turnedRepo is a copy of a room of which something is turned.
func turnedRepo(r impl.Repo, turn func(r *impl.Repo)) impl.Repo {
	other := copyRepo(r)
	turn(&other)
	return other
}

// crossed is a room in which 3 and 4 are each made of 1 and 2, and 5 and 6 each of 3 and 4.
func crossed() impl.Repo { return roomWith("- 0 0 1,2 2,1 3,4 4,3 5", 7, 6, 3) }

func okRepos() []impl.Repo {
	first, _ := impl.RepoNew("main")
	return []impl.Repo{
		first,
		roomWith("-", 0),
		roomWith("-", 0, 0, 0, 0),
		roomWith("- 0", 0),
		roomWith("- 0", 1, 0),
		roomWith("- 0 0 1,2", 3, 1, 2, 0),
		roomWith("- 0 0 2,1", 3),
		roomWith("- 0 1,0 2,1 3,0", 4, 2),
		crossed(),
		roomWith(oneRow(13), 12, 3),
		roomWith(oneRow(14), 13, 0, 6),
		roomWith("- 0 0 1,2 2,1 3,4 4,3 5,6 6,5 7,8 8,7 9,10 10,9 11,12", 13, 12, 8, 5),
		// Two versions that differ in the Up alone, in their order, in the map, and in the note.
		{Commits: []impl.Commit{versionOf(1, "ann"), versionOf(1, "ann", 0), versionOf(1, "ann", 1)}, Heads: headsAt(2)},
		{Commits: []impl.Commit{versionOf(1, "ann"), versionOf(2, "ann", 0), versionOf(3, "ann", 0, 1), versionOf(3, "ann", 1, 0)}, Heads: headsAt(2)},
		{Commits: []impl.Commit{versionOf(1, "ann"), versionOf(2, "ann", 0), versionOf(3, "ann", 0, 1), versionOf(3, "ann", 0)}, Heads: headsAt(2)},
		{Commits: []impl.Commit{versionOf(1, "ann"), versionOf(2, "ann", 0), versionOf(3, "ann", 0)}, Heads: headsAt(2)},
		{Commits: []impl.Commit{versionOf(1, "ann"), versionOf(2, "ann", 0), versionOf(2, "bob", 0)}, Heads: headsAt(2)},
		// The map with nothing again and again, and words of just the longest size.
		{Commits: []impl.Commit{{Note: "zzzzzz"}, {Up: []int{0}, Note: "zzzzzz"}, {Up: []int{1}, Note: "zzzzzz"}}, Heads: []impl.Head{{Name: "zzzzzz", At: 2}, {Name: "z", At: 2}}},
		{Commits: []impl.Commit{{Up: []int{}, Sheet: []impl.Feat{}, Note: "a"}}, Heads: []impl.Head{{Name: "a"}}},
		{Commits: []impl.Commit{{Sheet: sheetOf(nineNames()[:8]...), Note: "a"}}, Heads: []impl.Head{{Name: "a"}}},
	}
}

type wrongRepo struct {
	what string
	r    impl.Repo
}

// wrongRepos are rooms of which one thing alone is wrong.
func wrongRepos() []wrongRepo {
	list := []wrongRepo{
		{"nothing", impl.Repo{}},
		{"no versions", impl.Repo{Heads: headsAt(0)}},
		{"15 versions", roomWith(oneRow(15), 0)},
		{"15 versions, a branch at the last", roomWith(oneRow(15), 14)},
		{"many versions", impl.Repo{Commits: slices.Repeat([]impl.Commit{versionOf(1, "ann")}, 5000), Heads: headsAt(0)}},
		{"no branch", roomWith("- 0")},
		{"five branches", roomWith("- 0", 0, 1, 0, 1, 0)},
		{"many branches", impl.Repo{Commits: []impl.Commit{versionOf(1, "ann")}, Heads: slices.Repeat(headsAt(0), 5000)}},
	}
	good := roomWith("- 0 0 1,2 3", 4, 2, 1)
	turn := func(what string, turn func(r *impl.Repo)) {
		list = append(list, wrongRepo{what, turnedRepo(good, turn)})
	}
	for place, ups := range [][]string{
		{"0", "-1", "1", "0,1"},
		{"-", "1", "2", "-1", "9999", "0,0", "0,1", "1,0", "0,-1", "-1,0", "0,0,0"},
		{"-", "2", "3", "-1", "0,0", "1,1", "0,2", "2,0", "3,1", "-1,0", "1,-1", "0,1,0", "0,1,2"},
		{"-", "3", "4", "-1", "0,0", "2,2", "1,3", "3,1", "4,0", "0,1,2", "0,1,2,-1"},
		{"-", "4", "5", "3,3", "3,4", "4,3", "5,3", "-1,3", "3,-1", "0,1,2", "0,1,2,3"},
	} {
		for _, up := range ups {
			turn("version "+strconv.Itoa(place)+" with the Up "+up, func(r *impl.Repo) { r.Commits[place].Up = placesOf(up) })
		}
		for i, s := range [][]impl.Feat{{featOf("", shapeOf(impl.ShapeDot, pt(0, 0)))}, sheetOf("b", "a"), sheetOf(nineNames()...)} {
			turn("version "+strconv.Itoa(place)+" with wrong map "+strconv.Itoa(i), func(r *impl.Repo) { r.Commits[place].Sheet = s })
		}
		for _, word := range wrongWords() {
			turn("version "+strconv.Itoa(place)+" with the note "+word, func(r *impl.Repo) { r.Commits[place].Note = word })
		}
	}
	turn("a version of many Up", func(r *impl.Repo) { r.Commits[2].Up = slices.Repeat([]int{0}, 5000) })
	turn("two versions that are one, each behind the first", func(r *impl.Repo) { r.Commits[2] = copyCommit(r.Commits[1]) })
	turn("two versions that are one, each of two Up", func(r *impl.Repo) { r.Commits[4] = copyCommit(r.Commits[3]) })
	turn("two versions that are one, with the empty map", func(r *impl.Repo) {
		r.Commits[1], r.Commits[4] = impl.Commit{Up: []int{0}, Note: "x"}, impl.Commit{Up: []int{0}, Sheet: []impl.Feat{}, Note: "x"}
	})
	for i := range good.Heads {
		for _, at := range []int{-1, 5, 14, math.MinInt, math.MaxInt} {
			turn("branch "+strconv.Itoa(i)+" at "+strconv.Itoa(at), func(r *impl.Repo) { r.Heads[i].At = at })
		}
		for _, word := range wrongWords() {
			turn("branch "+strconv.Itoa(i)+" of the name "+word, func(r *impl.Repo) { r.Heads[i].Name = word })
		}
		turn("branch "+strconv.Itoa(i)+" of the next one's name", func(r *impl.Repo) { r.Heads[i].Name = r.Heads[(i+1)%3].Name })
	}
	turn("two branches that are one", func(r *impl.Repo) { r.Heads[2] = r.Heads[0] })
	return list
}

func TestRepoOk(t *testing.T) {
	for i, r := range okRepos() {
		if !impl.RepoOk(r) {
			t.Errorf("room %d is refused: %v", i, r)
		}
	}
	for _, w := range wrongRepos() {
		if impl.RepoOk(w.r) {
			t.Errorf("%s: is taken", w.what)
		}
	}
	for count := range 17 {
		if got := impl.RepoOk(roomWith(oneRow(count), 0)); count > 0 && got != (count <= 14) {
			t.Errorf("%d versions: %v", count, got)
		}
		r := impl.Repo{Commits: []impl.Commit{versionOf(1, "ann")}}
		for _, name := range manyNames(16)[:min(count, 16)] {
			r.Heads = append(r.Heads, impl.Head{Name: name})
		}
		if got := impl.RepoOk(r); got != (count >= 1 && count <= 4) {
			t.Errorf("%d branches: %v", count, got)
		}
	}
}

// Every Up of at most three places in every place of a room.
func TestRepoOkOfAllUps(t *testing.T) {
	for place := range 4 {
		for n := range 7 * 7 * 7 * 4 {
			up := []int{n%7 - 1, n/7%7 - 1, n/49%7 - 1}[:n/343]
			r := roomWith("- 0 0 0", 0)
			r.Commits[place].Up = up
			want := place == 0 && len(up) == 0 || place > 0 && (len(up) == 1 || len(up) == 2 && up[0] != up[1])
			for _, at := range up {
				want = want && at >= 0 && at < place
			}
			if impl.RepoOk(r) != want {
				t.Errorf("version %d with the Up %v: %v", place, up, !want)
			}
		}
	}
}

// nearRepos are rooms of which one part alone is not the same.
func nearRepos(r impl.Repo) []impl.Repo {
	var list []impl.Repo
	turn := func(turn func(r *impl.Repo)) { list = append(list, turnedRepo(r, turn)) }
	turn(func(r *impl.Repo) { r.Commits = append(r.Commits, impl.Commit{}) })
	turn(func(r *impl.Repo) { r.Heads = append(r.Heads, impl.Head{}) })
	for i := range r.Commits {
		turn(func(r *impl.Repo) { r.Commits = slices.Delete(r.Commits, i, i+1) })
		turn(func(r *impl.Repo) { r.Commits[i].Note += "x" })
		turn(func(r *impl.Repo) { r.Commits[i].Note = strings.ToUpper(r.Commits[i].Note) + "\x00" })
		turn(func(r *impl.Repo) { r.Commits[i].Up = append(r.Commits[i].Up, 0) })
		turn(func(r *impl.Repo) { r.Commits[i].Sheet = append(r.Commits[i].Sheet, impl.Feat{}) })
		for k := range r.Commits[i].Up {
			turn(func(r *impl.Repo) { r.Commits[i].Up[k]++ })
			turn(func(r *impl.Repo) { r.Commits[i].Up = slices.Delete(r.Commits[i].Up, k, k+1) })
			if r.Commits[i].Up[k] != r.Commits[i].Up[0] {
				turn(func(r *impl.Repo) { slices.Reverse(r.Commits[i].Up[:k+1]) })
			}
		}
		for k, f := range r.Commits[i].Sheet {
			for _, g := range near(f) {
				turn(func(r *impl.Repo) { r.Commits[i].Sheet[k] = g })
			}
			turn(func(r *impl.Repo) { r.Commits[i].Sheet = slices.Delete(r.Commits[i].Sheet, k, k+1) })
		}
	}
	for i := range r.Heads {
		turn(func(r *impl.Repo) { r.Heads = slices.Delete(r.Heads, i, i+1) })
		turn(func(r *impl.Repo) { r.Heads[i].Name += "x" })
		turn(func(r *impl.Repo) { r.Heads[i].At++ })
		turn(func(r *impl.Repo) { r.Heads[i].At = -7 })
		if r.Heads[i] != r.Heads[0] {
			turn(func(r *impl.Repo) { r.Heads[i], r.Heads[0] = r.Heads[0], r.Heads[i] })
		}
	}
	return list
}

func TestRepoSame(t *testing.T) {
	rooms := []impl.Repo{crossed(), roomWith("- 0 0 1,2", 3, 1, 2, 0), {}, roomWith("- 0", 7, -1), roomWith("0 -1 2,2,2 9,-4", 0, 0),
		{Commits: []impl.Commit{{Up: []int{3, 1, 2}, Sheet: sheetOf("b", "a"), Note: "\xff"}, {}}, Heads: []impl.Head{{Name: "N O", At: 99}, {}}}}
	for i, r := range rooms {
		for n, other := range nearRepos(r) {
			if impl.RepoSame(r, other) || impl.RepoSame(other, r) {
				t.Errorf("room %d is the same as one of which a part is not, %d: %v", i, n, other)
			}
		}
	}
	for _, r := range okRepos() {
		rooms = append(rooms, r)
	}
	for _, w := range wrongRepos() {
		rooms = append(rooms, w.r)
	}
	for i, r := range rooms {
		if !impl.RepoSame(r, copyRepo(r)) {
			t.Errorf("room %d is not the same as its copy", i)
		}
	}
	a := impl.Repo{Commits: []impl.Commit{{Up: []int{}, Sheet: []impl.Feat{}}}, Heads: []impl.Head{}}
	b := impl.Repo{Commits: []impl.Commit{{}}}
	if !impl.RepoSame(a, b) || !impl.RepoSame(b, a) || !impl.RepoSame(impl.Repo{}, impl.Repo{Commits: []impl.Commit{}, Heads: []impl.Head{}}) {
		t.Error("the empty list and the nil list are told apart")
	}
}

func TestRepoNew(t *testing.T) {
	for _, name := range []string{"main", "a", "zzzzzz", "begin"} {
		r, ok := impl.RepoNew(name)
		want := impl.Repo{Commits: []impl.Commit{{Note: "begin"}}, Heads: []impl.Head{{Name: name, At: 0}}}
		if !ok || !equalRepos(r, want) || !impl.RepoOk(r) {
			t.Errorf("%q: %v %v", name, r, ok)
		}
	}
	for _, name := range wrongWords() {
		if r, ok := impl.RepoNew(name); ok || !isNoRepo(r) {
			t.Errorf("%q: %v %v", name, r, ok)
		}
	}
}

func TestRepoAt(t *testing.T) {
	r := roomWith("- 0 0 1,2", 3, 1, 0, 1)
	for i, want := range []int{3, 1, 0, 1, -1} {
		if at := impl.RepoAt(r, branchNames()[i]); at != want {
			t.Errorf("%s: %d, not %d", branchNames()[i], at, want)
		}
	}
	for _, name := range append(wrongWords(), "mai", "mainx", "Main", " main", "ann") {
		if at := impl.RepoAt(r, name); at != -1 {
			t.Errorf("%q: %d", name, at)
		}
	}
}

// holdEnd asks what came and its code; nothing of it hangs on RepoSame.
func holdEnd(t *testing.T, what string, got impl.Repo, code int, want impl.Repo, wantCode int) {
	t.Helper()
	if code != wantCode || !equalRepos(got, want) {
		t.Errorf("%s: %d, not %d: %v, not %v", what, code, wantCode, got, want)
	}
}

func TestRepoAddIsFine(t *testing.T) {
	new1 := markSheet(77)
	fine := func(what string, r impl.Repo, name string, s []impl.Feat, note string, turn func(r *impl.Repo)) {
		t.Helper()
		got, end := impl.RepoAdd(r, name, s, note)
		holdEnd(t, what, got, end, turnedRepo(r, turn), impl.RepoFine)
	}
	r := roomWith("- 0 0 1,2", 3, 2)
	fine("behind all", r, "main", new1, "ann", func(r *impl.Repo) {
		r.Commits, r.Heads[0].At = append(r.Commits, versionOf(77, "ann", 3)), 4
	})
	fine("behind a version that is not the last", r, "cat", new1, "zzzzzz", func(r *impl.Repo) {
		r.Commits, r.Heads[1].At = append(r.Commits, versionOf(77, "zzzzzz", 2)), 4
	})
	fine("the map with nothing", r, "main", []impl.Feat{}, "ann", func(r *impl.Repo) {
		r.Commits, r.Heads[0].At = append(r.Commits, impl.Commit{Up: []int{3}, Note: "ann"}), 4
	})
	fine("the map of the version ahead", r, "main", markSheet(1), "ann", func(r *impl.Repo) {
		r.Commits, r.Heads[0].At = append(r.Commits, versionOf(1, "ann", 3)), 4
	})
	fine("the map and the note of one of two Up", r, "cat", markSheet(3), "ann", func(r *impl.Repo) {
		r.Commits, r.Heads[1].At = append(r.Commits, versionOf(3, "ann", 2)), 4
	})
	thirteen := roomWith(oneRow(13), 5, 12)
	fine("the 14th", thirteen, "main", new1, "bob", func(r *impl.Repo) {
		r.Commits, r.Heads[0].At = append(r.Commits, versionOf(77, "bob", 5)), 13
	})

	there := roomWith("- 0 0 1 1", 1, 4, 0, 3)
	fine("there is such a version, and another branch at it", there, "main", markSheet(3), "ann", func(r *impl.Repo) { r.Heads[0].At = 3 })
	fine("there is such a version, and no branch at it", there, "bob", markSheet(2), "ann", func(r *impl.Repo) { r.Heads[2].At = 2 })
	fine("there is one of another note", there, "main", markSheet(3), "anna", func(r *impl.Repo) {
		r.Commits, r.Heads[0].At = append(r.Commits, versionOf(3, "anna", 1)), 5
	})
	fine("there is one of another Up", there, "bob", markSheet(3), "ann", func(r *impl.Repo) {
		r.Commits, r.Heads[2].At = append(r.Commits, versionOf(3, "ann", 0)), 5
	})
	full := roomWith(oneRow(14), 5, 13, 0)
	fine("14 versions, and one such", full, "main", markSheet(6), "ann", func(r *impl.Repo) { r.Heads[0].At = 6 })
	fine("14 versions, and the last is such", turnedRepo(full, func(r *impl.Repo) { r.Heads[2].At = 12 }), "bob", markSheet(13), "ann",
		func(r *impl.Repo) { r.Heads[2].At = 13 })
}

func TestRepoAddIsRefused(t *testing.T) {
	new1 := markSheet(77)
	add := func(what string, r impl.Repo, name string, s []impl.Feat, note string, want impl.Repo, code int) {
		t.Helper()
		got, end := impl.RepoAdd(r, name, s, note)
		holdEnd(t, what, got, end, want, code)
	}
	r, full := roomWith("- 0 0 1,2", 3, 2), roomWith(oneRow(14), 5, 13, 0)
	add("no such branch", r, "bob", new1, "ann", r, impl.RepoNone)
	add("no word of a branch", r, "", new1, "ann", r, impl.RepoNone)
	add("a name that begins like one", r, "mainx", new1, "ann", r, impl.RepoNone)
	add("no such branch, and 14 versions", full, "dan", new1, "ann", full, impl.RepoNone)
	add("no such branch, and the map of all", roomWith("-", 0), "dan", markSheet(0), "ann", roomWith("-", 0), impl.RepoNone)
	add("just that map", r, "main", markSheet(3), "ann", r, impl.RepoSameC)
	add("just that map, another note", r, "main", markSheet(3), "bob", r, impl.RepoSameC)
	add("just that map, and 14 versions", full, "main", markSheet(5), "bob", full, impl.RepoSameC)
	begun, _ := impl.RepoNew("main")
	add("just the map with nothing", begun, "main", nil, "ann", begun, impl.RepoSameC)
	twice := roomWith("- 0 1", 1)
	twice.Commits[2].Sheet = markSheet(1)
	add("just that map, and such a version is there", twice, "main", markSheet(1), "ann", twice, impl.RepoSameC)
	add("14 versions", full, "main", new1, "ann", full, impl.RepoFull)
	add("14 versions, one of another note", full, "main", markSheet(6), "bob", full, impl.RepoFull)
	add("14 versions, one of another Up", full, "main", markSheet(7), "ann", full, impl.RepoFull)
	for _, of := range []impl.Repo{r, full} {
		for _, name := range []string{"main", "dan", ""} {
			for _, note := range wrongWords() {
				add("no word of a note", of, name, new1, note, impl.Repo{}, impl.RepoForm)
				add("no word of a note, and just that map", of, name, of.Commits[of.Heads[0].At].Sheet, note, impl.Repo{}, impl.RepoForm)
			}
			for _, s := range wrongSheets() {
				add("a wrong map", of, name, s, "ann", impl.Repo{}, impl.RepoForm)
			}
		}
	}
}

func TestRepoBranchLiterals(t *testing.T) {
	branch := func(what string, r impl.Repo, name string, from string, want impl.Repo, code int) {
		t.Helper()
		got, end := impl.RepoBranch(r, name, from)
		holdEnd(t, what, got, end, want, code)
	}
	with := func(r impl.Repo, name string, at int) impl.Repo {
		return turnedRepo(r, func(r *impl.Repo) { r.Heads = append(r.Heads, impl.Head{Name: name, At: at}) })
	}
	one, three, four := roomWith("- 0", 1), roomWith("- 0 0 1,2", 3, 1, 0), roomWith("- 0 0 1,2", 3, 1, 0, 1)
	branch("the second", one, "a", "main", with(one, "a", 1), impl.RepoFine)
	branch("the fourth", three, "zzzzzz", "cat", with(three, "zzzzzz", 1), impl.RepoFine)
	branch("of the last one", three, "aa", "bob", with(three, "aa", 0), impl.RepoFine)
	full := roomWith(oneRow(14), 13)
	branch("with 14 versions", full, "bob", "main", with(full, "bob", 13), impl.RepoFine)

	branch("no such branch", one, "a", "cat", one, impl.RepoNone)
	branch("no word of a branch", one, "a", "", one, impl.RepoNone)
	branch("from itself, which is not there", one, "a", "a", one, impl.RepoNone)
	branch("no such branch, and the new name is there", one, "main", "cat", one, impl.RepoNone)
	branch("no such branch, and four", four, "a", "eve", four, impl.RepoNone)
	branch("no such branch, four, and the new name is there", four, "dan", "eve", four, impl.RepoNone)
	branch("the new name is there", three, "cat", "main", three, impl.RepoFull)
	branch("the new name is that of the other one", three, "cat", "cat", three, impl.RepoFull)
	branch("four", four, "eve", "main", four, impl.RepoFull)
	branch("four, and the new name is there", four, "dan", "main", four, impl.RepoFull)
	for _, r := range []impl.Repo{one, three, four} {
		for _, name := range wrongWords() {
			for _, from := range []string{"main", "eve", name} {
				branch("no word of a new branch", r, name, from, impl.Repo{}, impl.RepoForm)
			}
		}
	}
}

func TestRepoDropLiterals(t *testing.T) {
	drop := func(what string, r impl.Repo, name string, want impl.Repo, code int) {
		t.Helper()
		got, end := impl.RepoDrop(r, name)
		holdEnd(t, what, got, end, want, code)
	}
	four, one := roomWith("- 0 0 1,2", 3, 1, 0, 1), roomWith("- 0", 1)
	for i, name := range branchNames()[:4] {
		drop(name, four, name, turnedRepo(four, func(r *impl.Repo) { r.Heads = slices.Delete(r.Heads, i, i+1) }), impl.RepoFine)
	}
	two := roomWith("- 0 0", 1, 2)
	drop("the first of two", two, "main", impl.Repo{Commits: two.Commits, Heads: two.Heads[1:]}, impl.RepoFine)
	drop("the last of two", two, "cat", impl.Repo{Commits: two.Commits, Heads: two.Heads[:1]}, impl.RepoFine)
	drop("no such branch", four, "eve", four, impl.RepoNone)
	drop("no word of a branch", four, "", four, impl.RepoNone)
	drop("no such branch, and only one", one, "cat", one, impl.RepoNone)
	drop("the only one", one, "main", one, impl.RepoFull)
	for _, name := range wrongWords() {
		drop("no word of a branch", four, name, four, impl.RepoNone)
	}
}

// smallRooms are rooms of every Up of up to five versions.
func smallRooms() []impl.Repo {
	rows := []string{"-"}
	list := []impl.Repo{roomWith("-", 0, 0)}
	for place := 1; place < 5; place++ {
		var longer []string
		for i, row := range rows {
			for a := range place {
				for b := range place {
					up := " " + strconv.Itoa(a)
					if b != a {
						up += "," + strconv.Itoa(b)
					}
					longer = append(longer, row+up)
					list = append(list, roomWith(row+up, place, (i+a)%(place+1), b))
				}
			}
		}
		rows = longer
	}
	return list
}

// mixedRooms are rooms of up to 14 versions that cross in many ways, of few maps and notes.
func mixedRooms(count int) []impl.Repo {
	var list []impl.Repo
	state := uint32(7)
	next := func(below int) int {
		state = state*1664525 + 1013904223
		return int(state>>16) % below
	}
	for i := range count {
		r := impl.Repo{Commits: []impl.Commit{{Note: "begin"}}}
		for size := 5 + i%10; len(r.Commits) < size; {
			place := len(r.Commits)
			c := versionOf(next(4), []string{"ann", "bob"}[next(2)], place-1-next(min(place, 4)))
			if up := place - 1 - next(min(place, 4)); up != c.Up[0] {
				c.Up = append(c.Up, up)
			}
			if !slices.ContainsFunc(r.Commits, func(d impl.Commit) bool { return equalCommits(c, d) }) {
				r.Commits = append(r.Commits, c)
			}
		}
		for range 1 + i%4 {
			r.Heads = append(r.Heads, impl.Head{Name: branchNames()[len(r.Heads)], At: next(len(r.Commits))})
		}
		list = append(list, r)
	}
	return list
}

// reaches tells of each version, as bits, itself and all that is ahead of it.
func reaches(r impl.Repo) []uint {
	var list []uint
	for place, c := range r.Commits {
		set := uint(1) << place
		for _, up := range c.Up {
			set |= list[up]
		}
		list = append(list, set)
	}
	return list
}

// latestFirst is the places of bits, the greatest first.
func latestFirst(set uint) []int {
	var places []int
	for ; set != 0; set &^= 1 << (bits.Len(set) - 1) {
		places = append(places, bits.Len(set)-1)
	}
	return places
}

func wantedBases(reach []uint, a int, b int) []int {
	both := reach[a] & reach[b]
	last := both
	for _, place := range latestFirst(both) {
		last &^= reach[place] &^ (1 << place)
	}
	return latestFirst(last)
}

// holdWalks asks all that is told of the versions of a room, at every place and at some that are none.
func holdWalks(t *testing.T, r impl.Repo) {
	t.Helper()
	reach := reaches(r)
	count := len(r.Commits)
	for a := -1; a <= count; a++ {
		isA := a >= 0 && a < count
		var past []int
		if isA {
			past = latestFirst(reach[a])
		}
		if got := impl.RepoPast(r, a); !slices.Equal(got, past) {
			t.Fatalf("%v: past %d: %v, not %v", r, a, got, past)
		}
		for b := -1; b <= count; b++ {
			var bases []int
			ahead := false
			if isA && b >= 0 && b < count {
				bases, ahead = wantedBases(reach, a, b), reach[b]>>a&1 == 1
			}
			if got := impl.RepoBases(r, a, b); !slices.Equal(got, bases) {
				t.Fatalf("%v: bases of %d and %d: %v, not %v", r, a, b, got, bases)
			}
			if got := impl.RepoAhead(r, a, b); got != ahead {
				t.Fatalf("%v: %d ahead of %d: %v", r, a, b, got)
			}
		}
	}
}

func TestRepoWalksOfAllSmallRooms(t *testing.T) {
	for _, r := range smallRooms() {
		holdWalks(t, r)
	}
}

func TestRepoWalksOfGreatRooms(t *testing.T) {
	several := 0
	for _, r := range append(mixedRooms(200), okRepos()...) {
		holdWalks(t, r)
		for a := range r.Commits {
			for b := range a {
				if len(impl.RepoBases(r, a, b)) > 1 {
					several++
				}
			}
		}
	}
	if several < 200 {
		t.Errorf("the rooms are to have many versions with several bases: %d", several)
	}
}

func TestRepoPastLiterals(t *testing.T) {
	r := roomWith("- 0 0 1,2 1 4,3", 5)
	for at, want := range []string{"0", "1,0", "2,0", "3,2,1,0", "4,1,0", "5,4,3,2,1,0"} {
		if got := impl.RepoPast(r, at); !slices.Equal(got, placesOf(want)) {
			t.Errorf("%d: %v, not %s", at, got, want)
		}
	}
	if got := impl.RepoPast(roomWith(oneRow(14), 0), 13); !slices.Equal(got, placesOf("13,12,11,10,9,8,7,6,5,4,3,2,1,0")) {
		t.Errorf("%v", got)
	}
	// A version that no branch leads to has what is ahead of it, too; and what is none has nothing.
	if got := impl.RepoPast(roomWith("- 0 1", 0), 2); !slices.Equal(got, []int{2, 1, 0}) {
		t.Errorf("%v", got)
	}
	for _, at := range []int{-1, 6, 13, 14, math.MinInt, math.MaxInt} {
		if got := impl.RepoPast(r, at); len(got) != 0 {
			t.Errorf("%d: %v", at, got)
		}
	}
}

func TestRepoBasesLiterals(t *testing.T) {
	for _, c := range []struct {
		ups  string
		a, b int
		want string
	}{
		{"-", 0, 0, "0"},
		{"- 0 0", 1, 2, "0"},
		{"- 0 0", 1, 1, "1"},
		{"- 0 1 2", 1, 3, "1"},
		{"- 0 1 2", 0, 3, "0"},
		{"- 0 1 1", 2, 3, "1"},
		{"- 0 0 1,2", 3, 2, "2"},
		{"- 0 0 1,2", 3, 0, "0"},
		{"- 0 0 1,2 1", 3, 4, "1"},
		// Versions that cross, once and twice, and three that are ahead of both.
		{"- 0 0 1,2 2,1", 3, 4, "2,1"},
		{"- 0 0 1,2 1,2", 3, 4, "2,1"},
		{"- 0 0 1,2 2,1 3,4 4,3", 5, 6, "4,3"},
		{"- 0 0 1,2 2,1 3 4", 5, 6, "2,1"},
		{"- 0 0 1,2 2,1 3,4 4", 5, 6, "4"},
		{"- 0 0 1,2 2,1 3,4 2", 5, 6, "2"},
		{"- 0 0 0 1,2 1,2 4,3 5,3", 6, 7, "3,2,1"},
		// Of two that both are ahead of, one is ahead of the other, by a short way, and by a long one.
		{"- 0 0,1 1,0", 2, 3, "1"},
		{"- 0 1 2 3 4,0 0,4", 5, 6, "4"},
		{"- 0 0 1 3 4,2 2,4", 5, 6, "4,2"},
		{"- 0 1 2 3 4,1 4,1", 5, 6, "4"},
	} {
		for _, places := range [][2]int{{c.a, c.b}, {c.b, c.a}} {
			if got := impl.RepoBases(roomWith(c.ups, 0), places[0], places[1]); !slices.Equal(got, placesOf(c.want)) {
				t.Errorf("%q, %v: %v, not %s", c.ups, places, got, c.want)
			}
		}
	}
	r := crossed()
	for _, none := range []int{-1, 8, 13, 14, math.MinInt, math.MaxInt} {
		for _, other := range []int{0, 7, none} {
			if l, k := impl.RepoBases(r, none, other), impl.RepoBases(r, other, none); len(l)+len(k) != 0 {
				t.Errorf("%d and %d: %v %v", none, other, l, k)
			}
			if impl.RepoAhead(r, none, other) || impl.RepoAhead(r, other, none) {
				t.Errorf("%d and %d: ahead", none, other)
			}
		}
	}
}

func TestRepoAheadLiterals(t *testing.T) {
	r := crossed()
	for _, c := range []struct {
		a, b int
		want bool
	}{
		{0, 0, true}, {0, 7, true}, {7, 0, false}, {7, 7, true}, {1, 3, true}, {2, 3, true}, {1, 4, true}, {3, 1, false},
		{1, 2, false}, {2, 1, false}, {3, 4, false}, {4, 3, false}, {3, 5, true}, {4, 5, true}, {5, 6, false}, {6, 7, false}, {5, 7, true},
	} {
		if got := impl.RepoAhead(r, c.a, c.b); got != c.want {
			t.Errorf("%d ahead of %d: %v", c.a, c.b, got)
		}
	}
}

func TestRepoSweepLiterals(t *testing.T) {
	sweep := func(what string, r impl.Repo, want impl.Repo) {
		t.Helper()
		if got := impl.RepoSweep(r); !equalRepos(got, want) {
			t.Errorf("%s: %v, not %v", what, got, want)
		}
	}
	for _, r := range []impl.Repo{roomWith("-", 0), crossed(), roomWith("- 0 0 1,2", 3), roomWith("- 0 0", 1, 2), roomWith(oneRow(14), 13, 0)} {
		whole := turnedRepo(r, func(r *impl.Repo) { r.Heads[0].At = len(r.Commits) - 1 })
		if len(impl.RepoPast(whole, whole.Heads[0].At)) == len(whole.Commits) {
			sweep("nothing to sweep", whole, whole)
		}
	}
	sweep("two branches lead to all", roomWith("- 0 0 1,2 1", 3, 4), roomWith("- 0 0 1,2 1", 3, 4))
	// versions are those of these places of a room of marks.
	left := func(marks []int, ups string, at ...int) impl.Repo {
		r := roomWith(ups, at...)
		for i, mark := range marks {
			r.Commits[i].Sheet = markSheet(mark)
		}
		return r
	}
	sweep("one in the middle", roomWith("- 0 0 2,0 3", 4, 2), left([]int{0, 2, 3, 4}, "- 0 1,0 2", 3, 1))
	sweep("the last one", roomWith("- 0 1", 1), roomWith("- 0", 1))
	sweep("all but the first", roomWith("- 0 1,0 2", 0, 0), roomWith("-", 0, 0))
	sweep("a whole branch of versions", roomWith("- 0 1 0 3 4 2,1", 6), left([]int{0, 1, 2, 6}, "- 0 1 2,1", 3))
	sweep("the other whole branch", roomWith("- 0 1 0 3 4 2,1", 5, 3), left([]int{0, 3, 4, 5}, "- 0 1 2", 3, 1))
	sweep("every other one", roomWith("- 0 0 2 2 4,2 4 6,4", 7), left([]int{0, 2, 4, 6, 7}, "- 0 1 2 3,2", 4))
	sweep("14 of which 12 go", roomWith("- 0 1 2 3 4 5 6 7 8 9 10 11 0", 13), left([]int{0, 13}, "- 0", 1))
	sweep("the order of two Up stays", roomWith("- 0 0 0 3,2 2,3", 4, 5), left([]int{0, 2, 3, 4, 5}, "- 0 0 2,1 1,2", 3, 4))
}

// wantedSweep tells the new places by counting what is kept ahead of them.
func wantedSweep(r impl.Repo) impl.Repo {
	kept := uint(0)
	for _, h := range r.Heads {
		kept |= reaches(r)[h.At]
	}
	anew := func(place int) int { return bits.OnesCount(kept & (1<<place - 1)) }
	var want impl.Repo
	for place, c := range copyRepo(r).Commits {
		for i, up := range c.Up {
			c.Up[i] = anew(up)
		}
		if kept>>place&1 == 1 {
			want.Commits = append(want.Commits, c)
		}
	}
	for _, h := range r.Heads {
		want.Heads = append(want.Heads, impl.Head{Name: h.Name, At: anew(h.At)})
	}
	return want
}

// historyOf is the maps and notes of a version and all ahead of it, in order.
func historyOf(r impl.Repo, at int) []impl.Commit {
	var list []impl.Commit
	for _, place := range latestFirst(reaches(r)[at]) {
		list = append(list, impl.Commit{Sheet: r.Commits[place].Sheet, Note: r.Commits[place].Note})
	}
	return list
}

// Promise 7: after a sweep each branch is there with its map and its past.
func holdSweep(t *testing.T, r impl.Repo) impl.Repo {
	t.Helper()
	x := impl.RepoSweep(r)
	if !equalRepos(x, wantedSweep(r)) || !impl.RepoOk(x) || len(x.Heads) != len(r.Heads) {
		t.Fatalf("%v: %v", r, x)
	}
	for i, h := range r.Heads {
		if x.Heads[i].Name != h.Name || !slices.EqualFunc(historyOf(x, x.Heads[i].At), historyOf(r, h.At), equalCommits) {
			t.Fatalf("%v: branch %s has another past: %v", r, h.Name, x)
		}
		past, was := impl.RepoPast(x, impl.RepoAt(x, h.Name)), impl.RepoPast(r, h.At)
		if !slices.EqualFunc(past, was, func(a int, b int) bool {
			return x.Commits[a].Note == r.Commits[b].Note && equalSheets(x.Commits[a].Sheet, r.Commits[b].Sheet)
		}) {
			t.Fatalf("%v: branch %s has another past: %v, and was %v", r, h.Name, past, was)
		}
	}
	if again := impl.RepoSweep(x); !equalRepos(again, x) {
		t.Fatalf("%v: swept again: %v", x, again)
	}
	return x
}

func TestRepoSweepOfManyRooms(t *testing.T) {
	for _, r := range slices.Concat(smallRooms(), mixedRooms(300), okRepos()) {
		holdSweep(t, r)
	}
}

// Promise 7: a version is put behind what it was made of, and all else is as it was.
func holdAdd(t *testing.T, r impl.Repo, name string, s []impl.Feat, note string) (impl.Repo, int) {
	t.Helper()
	x, code := impl.RepoAdd(r, name, s, note)
	at := slices.IndexFunc(r.Heads, func(h impl.Head) bool { return h.Name == name })
	if at < 0 || code != impl.RepoFine {
		want := impl.RepoFull
		if at < 0 {
			want = impl.RepoNone
		} else if equalSheets(r.Commits[r.Heads[at].At].Sheet, s) {
			want = impl.RepoSameC
		}
		if code != want || !equalRepos(x, r) || code == impl.RepoFull && len(r.Commits) != 14 {
			t.Fatalf("%v: %q %v %q: %v %d, not %d", r, name, s, note, x, code, want)
		}
		return x, code
	}
	made := impl.Commit{Up: []int{r.Heads[at].At}, Sheet: s, Note: note}
	place := slices.IndexFunc(r.Commits, func(c impl.Commit) bool { return equalCommits(c, made) })
	want := copyRepo(r)
	if place < 0 {
		place = len(r.Commits)
		want.Commits = append(want.Commits, made)
	}
	want.Heads[at].At = place
	if !equalRepos(x, want) || equalSheets(r.Commits[r.Heads[at].At].Sheet, s) || !impl.RepoOk(x) || impl.RepoAt(x, name) != place {
		t.Fatalf("%v: %q %v %q: %v, not %v", r, name, s, note, x, want)
	}
	if !slices.Equal(impl.RepoPast(x, place)[1:], impl.RepoPast(r, r.Heads[at].At)) {
		t.Fatalf("%v: the new version of %q has another past: %v", r, name, x)
	}
	return x, code
}

func TestRepoAddOfManyRooms(t *testing.T) {
	var codes [5]int
	there := 0
	for _, r := range append(mixedRooms(200), okRepos()...) {
		for _, name := range branchNames() {
			for mark := range 5 {
				x, code := holdAdd(t, r, name, markSheet(mark), "ann")
				codes[code]++
				if code == impl.RepoFine && len(x.Commits) == len(r.Commits) {
					there++
				}
			}
		}
	}
	if codes[impl.RepoFine] < 100 || codes[impl.RepoFull] < 100 || codes[impl.RepoSameC] < 100 || codes[impl.RepoNone] < 100 || there < 50 {
		t.Errorf("the rooms are to end in all ways: %v %d", codes, there)
	}
}

// Promise 7: what is asked of a room, many times over, turns no version and no other branch.
func TestRepoOfManyHands(t *testing.T) {
	r, _ := impl.RepoNew("main")
	full := 0
	for i := range 600 {
		name, other := branchNames()[i*7%5], branchNames()[(i/3+i*i)%5]
		was := copyRepo(r)
		var code int
		switch i * i / 7 % 5 {
		case 0, 1, 2:
			r, code = holdAdd(t, r, name, markSheet(i*5%9), "ann")
		case 3:
			r, code = impl.RepoBranch(r, name, other)
		case 4:
			r, code = impl.RepoDrop(r, name)
		}
		if code == impl.RepoFull {
			full++
		}
		if !impl.RepoOk(r) || !slices.EqualFunc(r.Commits[:len(was.Commits)], was.Commits, equalCommits) {
			t.Fatalf("step %d has turned versions: %v, and was %v", i, r, was)
		}
		for _, h := range was.Heads {
			if h.Name != name && !slices.Contains(r.Heads, h) {
				t.Fatalf("step %d has turned branch %s: %v, and was %v", i, h.Name, r, was)
			}
		}
		if i%17 == 0 {
			r = holdSweep(t, r)
		}
	}
	if full < 20 {
		t.Errorf("the rooms are to be full: %d", full)
	}
}

func TestRepoNotOkTellsNothing(t *testing.T) {
	ends := func(what string, r impl.Repo, code int) {
		t.Helper()
		if code != impl.RepoForm || !isNoRepo(r) {
			t.Errorf("%s: %v %d", what, r, code)
		}
	}
	for _, w := range wrongRepos() {
		names := []string{"main", "cat", "bob", "new", "", "No"}
		for _, name := range names {
			if at := impl.RepoAt(w.r, name); at != -1 {
				t.Errorf("%s: RepoAt of %q: %d", w.what, name, at)
			}
			for _, s := range [][]impl.Feat{markSheet(77), markSheet(4), nil, sheetOf("b", "a")} {
				x, code := impl.RepoAdd(w.r, name, s, "ann")
				ends(w.what+": RepoAdd", x, code)
			}
			for _, from := range names {
				x, code := impl.RepoBranch(w.r, name, from)
				ends(w.what+": RepoBranch", x, code)
			}
			x, code := impl.RepoDrop(w.r, name)
			ends(w.what+": RepoDrop", x, code)
		}
		for a := -1; a < 6; a++ {
			if l := impl.RepoPast(w.r, a); len(l) != 0 {
				t.Errorf("%s: RepoPast of %d: %v", w.what, a, l)
			}
			for b := -1; b < 6; b++ {
				if l := impl.RepoBases(w.r, a, b); len(l) != 0 || impl.RepoAhead(w.r, a, b) {
					t.Errorf("%s: RepoBases of %d and %d: %v, or ahead", w.what, a, b, l)
				}
			}
		}
		if x := impl.RepoSweep(w.r); !isNoRepo(x) {
			t.Errorf("%s: RepoSweep: %v", w.what, x)
		}
	}
}

// roomyRepo is a room whose lists all lie ahead of other ones; what is behind their ends is of their room.
func roomyRepo(r impl.Repo) impl.Repo {
	var commits []impl.Commit
	for _, c := range append(copyRepo(r).Commits, versionOf(8, "behind", 0), versionOf(9, "far", 1)) {
		up := append(slices.Clone(c.Up), 91, 92)
		c.Up = up[:len(c.Up)]
		c.Sheet, _ = roomySheet(c.Sheet)
		commits = append(commits, c)
	}
	heads := append(slices.Clone(r.Heads), impl.Head{Name: "behind", At: 1}, impl.Head{Name: "far", At: 2})
	return impl.Repo{Commits: commits[:len(r.Commits)], Heads: heads[:len(r.Heads)]}
}

// repoRoomOf is a room with all that is behind the ends of its lists, in new memory.
func repoRoomOf(r impl.Repo) impl.Repo {
	room := impl.Repo{Heads: slices.Clone(r.Heads[:cap(r.Heads)])}
	for _, c := range r.Commits[:cap(r.Commits)] {
		c.Up = slices.Clone(c.Up[:cap(c.Up)])
		c.Sheet = roomOf(c.Sheet[:cap(c.Sheet)])
		room.Commits = append(room.Commits, c)
	}
	return room
}

// memory is where a list lies, spare room included. The list is held, so that none that comes later can lie there.
type memory struct {
	what     string
	from, to uintptr
	held     any
}

func memoryOf[T any](what string, l []T) memory {
	from := uintptr(unsafe.Pointer(unsafe.SliceData(l)))
	var one T
	return memory{what, from, from + uintptr(cap(l))*unsafe.Sizeof(one), l}
}

func sheetMemories(what string, s []impl.Feat) []memory {
	list := []memory{memoryOf(what+" the map", s)}
	for i, f := range s[:cap(s)] {
		thing := what + " thing " + strconv.Itoa(i)
		list = append(list, memoryOf(thing+" points", f.Shape.Pts), memoryOf(thing+" tags", f.Tags))
	}
	return list
}

func repoMemories(r impl.Repo) []memory {
	list := []memory{memoryOf("versions", r.Commits), memoryOf("branches", r.Heads)}
	for i, c := range r.Commits[:cap(r.Commits)] {
		what := "version " + strconv.Itoa(i)
		list = append(list, memoryOf(what+" Up", c.Up))
		list = append(list, sheetMemories(what, c.Sheet)...)
	}
	return list
}

func overlap(a memory, b memory) bool { return max(a.from, b.from) < min(a.to, b.to) }

// ownMemory fails, if two lists of an answer share memory, or one of it and one that was given.
func ownMemory(t *testing.T, what string, answer []memory, given []memory) {
	t.Helper()
	for i, a := range answer {
		for _, b := range append(slices.Clone(given), answer[:i]...) {
			if overlap(a, b) {
				t.Fatalf("%s: %s shares memory with %s", what, a.what, b.what)
			}
		}
	}
}

type repoAnswer struct {
	what string
	r    impl.Repo
}

// repoAnswers are all answers that are rooms, of every code.
func repoAnswers(r impl.Repo, s []impl.Feat) []repoAnswer {
	begun, _ := impl.RepoNew("main")
	list := []repoAnswer{{"new", begun}, {"sweep", impl.RepoSweep(r)}}
	for _, name := range branchNames() {
		x, _ := impl.RepoAdd(r, name, s, "new")
		list = append(list, repoAnswer{"add " + name, x})
		for i, c := range r.Commits {
			// The map of a version may be handed in as it lies in the room.
			x, _ := impl.RepoAdd(r, name, c.Sheet, c.Note)
			list = append(list, repoAnswer{"add " + name + " version " + strconv.Itoa(i), x})
		}
		for _, from := range branchNames()[:2] {
			x, _ := impl.RepoBranch(r, name, from)
			list = append(list, repoAnswer{"branch " + name + " of " + from, x})
		}
		y, _ := impl.RepoDrop(r, name)
		list = append(list, repoAnswer{"drop " + name, y})
	}
	return list
}

// sharedRoom is a room whose lists of one kind all lie in one piece of memory.
func sharedRoom() impl.Repo {
	ups := []int{0, 1, 2, 0, 1}
	s := sharedThings()
	return impl.Repo{Commits: []impl.Commit{
		{Note: "a", Up: ups[:0], Sheet: s},
		{Note: "b", Up: ups[:1], Sheet: s[:3]},
		{Note: "c", Up: ups[:2], Sheet: s[1:4]},
		{Note: "d", Up: ups[1:3], Sheet: s[1:4]},
		{Note: "e", Up: ups[2:4], Sheet: s},
		{Note: "f", Up: ups[3:4], Sheet: s[:0]},
	}, Heads: headsAt(4, 2, 5)}
}

// memoryRooms are rooms of few versions, and some that are not ok.
func memoryRooms() []impl.Repo {
	list := []impl.Repo{sharedRoom()}
	for _, r := range slices.Concat(okRepos(), mixedRooms(12)) {
		list = append(list, roomyRepo(r))
	}
	for i, w := range wrongRepos() {
		if i%5 == 0 && len(w.r.Commits) < 20 && len(w.r.Heads) < 20 {
			list = append(list, roomyRepo(w.r))
		}
	}
	return list
}

func TestRepoAnswersAreNewMemory(t *testing.T) {
	for i, r := range memoryRooms() {
		s, _ := roomySheet(markSheet(77))
		answers := repoAnswers(r, s)
		given := append(repoMemories(r), sheetMemories("given", s)...)
		for _, a := range answers {
			ownMemory(t, "room "+strconv.Itoa(i)+" "+a.what, repoMemories(a.r), given)
		}
		for a := range r.Commits {
			for b := range r.Commits {
				lists := []memory{memoryOf("past", impl.RepoPast(r, a)), memoryOf("bases", impl.RepoBases(r, a, b))}
				ownMemory(t, "room "+strconv.Itoa(i), lists, given)
			}
		}
	}
}

func TestRepoLeavesArgumentsAlone(t *testing.T) {
	for i, r := range memoryRooms() {
		s, all := roomySheet(markSheet(77))
		was, sheetWas := repoRoomOf(r), roomOf(all)
		repoAnswers(r, s)
		impl.RepoOk(r)
		impl.RepoSame(r, r)
		impl.RepoSame(r, crossed())
		for a := range 4 {
			impl.RepoPast(r, a)
			impl.RepoBases(r, a, 3)
			impl.RepoAhead(r, a, 3)
		}
		impl.RepoAt(r, "main")
		if !equalRepos(repoRoomOf(r), was) || !equalSheets(roomOf(all), sheetWas) {
			t.Fatalf("a call has written into room %d", i)
		}
	}
}

// overwriteRepo writes over all that can be reached of a room, spare room included.
func overwriteRepo(r impl.Repo) {
	for i, c := range r.Commits[:cap(r.Commits)] {
		for k := range c.Up[:cap(c.Up)] {
			c.Up[:cap(c.Up)][k] = -5
		}
		overwriteSheet(c.Sheet)
		r.Commits[:cap(r.Commits)][i] = impl.Commit{Note: "over"}
	}
	for i := range r.Heads[:cap(r.Heads)] {
		r.Heads[:cap(r.Heads)][i] = impl.Head{Name: "over", At: -5}
	}
}

func TestRepoAnswersAreNewEachTime(t *testing.T) {
	for i, r := range memoryRooms() {
		s := markSheet(77)
		first := repoAnswers(r, s)
		var kept []impl.Repo
		for _, a := range first {
			kept = append(kept, copyRepo(a.r))
		}
		for _, a := range first {
			overwriteRepo(a.r)
		}
		for n, a := range repoAnswers(r, s) {
			if !equalRepos(a.r, kept[n]) {
				t.Fatalf("room %d, %s: what was answered once comes again as it was turned: %v", i, a.what, a.r)
			}
		}
	}
	r := crossed()
	for range 2 {
		past, bases := impl.RepoPast(r, 7), impl.RepoBases(r, 5, 6)
		if !slices.Equal(past, placesOf("7,5,4,3,2,1,0")) || !slices.Equal(bases, placesOf("4,3")) {
			t.Fatalf("%v %v", past, bases)
		}
		for _, l := range [][]int{past, bases} {
			for i := range l[:cap(l)] {
				l[:cap(l)][i] = 99
			}
		}
	}
}

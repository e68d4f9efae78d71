package tests

import (
	"slices"
	"strings"
	"testing"

	"loop.example/townland/impl"
)

func tag(key string, val string) impl.Tag { return impl.Tag{Key: key, Val: val} }

func featOf(id string, s impl.Shape, tags ...impl.Tag) impl.Feat {
	return impl.Feat{Id: id, Shape: s, Tags: tags}
}

func isNoFeat(f impl.Feat) bool {
	return f.Id == "" && isNothing(f.Shape) && len(f.Tags) == 0
}

func copyFeat(f impl.Feat) impl.Feat {
	return impl.Feat{
		Id:    f.Id,
		Shape: impl.Shape{Kind: f.Shape.Kind, Pts: slices.Clone(f.Shape.Pts)},
		Tags:  slices.Clone(f.Tags),
	}
}

// equalFeats is written out here, so that FeatSame is not asked about itself.
func equalFeats(a impl.Feat, b impl.Feat) bool {
	return a.Id == b.Id && a.Shape.Kind == b.Shape.Kind &&
		slices.Equal(a.Shape.Pts, b.Shape.Pts) && slices.Equal(a.Tags, b.Tags)
}

// someKeys are in the order of their bytes; "a" is the first of all words, and "zzzzzz" the last.
func someKeys() []string { return []string{"a", "b", "ba", "kind", "zzzzzz"} }

// tagLists are all lists of at most TagMost of these keys.
func tagLists() [][]impl.Tag {
	vals := []string{"road", "z", "a", "stream", "a"}
	var lists [][]impl.Tag
	for set := range 1 << len(someKeys()) {
		var tags []impl.Tag
		for i, key := range someKeys() {
			if set>>i&1 == 1 {
				tags = append(tags, tag(key, vals[i]))
			}
		}
		if len(tags) <= impl.TagMost {
			lists = append(lists, tags)
		}
	}
	return lists
}

func fewShapes() []impl.Shape {
	return []impl.Shape{
		shapeOf(impl.ShapeDot, pt(-1, 0)),
		shapeOf(impl.ShapeLine, pt(0, 0), pt(4, -4)),
		shapeOf(impl.ShapeRing, pt(2, 2), pt(0, 2), pt(0, 0)),
	}
}

func okFeats() []impl.Feat {
	var list []impl.Feat
	for _, s := range fewShapes() {
		for _, tags := range tagLists() {
			list = append(list, featOf("oak", s, tags...))
		}
	}
	four := []impl.Tag{tag("a", "zzzzzz"), tag("aa", "a"), tag("aaaaaa", "aaaaaa"), tag("z", "kind")}
	for _, s := range okShapes() {
		list = append(list, featOf("a", s), featOf("zzzzzz", s, four...))
	}
	return list
}

func wrongWords() []string {
	return []string{
		"", " ", "aaaaaaa", "zzzzzzz", "abcdefg", strings.Repeat("a", 5000),
		"`", "{", "a`", "{z", "aaaaa`", "{aaaaa", "A", "Z", "aB", "0", "a1", "-", "_", "a-b", "=", "a=", "=a", "a=b",
		" a", "a ", "a b", "a\n", "\na", "\t", "a\x00", "\x00", "\xff", "a\xff", "\u00e9", "a\u0301", "\u0430",
	}
}

func wrongTagLists() [][]impl.Tag {
	lists := [][]impl.Tag{
		{tag("a", "x"), tag("b", "x"), tag("c", "x"), tag("d", "x"), tag("e", "x")},
		{tag("a", "x"), tag("a", "x")},
		{tag("a", "x"), tag("a", "y")},
		{tag("a", "x"), tag("b", "x"), tag("b", "y")},
		{tag("a", "x"), tag("b", "x"), tag("c", "x"), tag("c", "x")},
		{tag("a", "x"), tag("a", "x"), tag("a", "x"), tag("a", "x"), tag("a", "x")},
		{tag("b", "x"), tag("a", "x")},
		{tag("ab", "x"), tag("a", "x")},
		{tag("b", "x"), tag("ab", "x")},
		{tag("a", "x"), tag("c", "x"), tag("b", "x")},
		{tag("b", "x"), tag("a", "x"), tag("c", "x"), tag("d", "x")},
		{tag("a", "x"), tag("b", "x"), tag("d", "x"), tag("c", "x")},
		{tag("a", "x"), tag("b", "x"), tag("a", "x")},
		slices.Repeat([]impl.Tag{tag("a", "x")}, 5000),
	}
	for _, w := range wrongWords() {
		lists = append(lists, []impl.Tag{tag(w, "x")}, []impl.Tag{tag("a", w)},
			[]impl.Tag{tag("a", "x"), tag("b", "x"), tag("c", w)})
	}
	return lists
}

func wrongFeats() []impl.Feat {
	line := shapeOf(impl.ShapeLine, pt(0, 0), pt(4, 4))
	list := []impl.Feat{{}}
	for _, w := range wrongWords() {
		list = append(list, featOf(w, line), featOf(w, line, tag("a", "x")))
	}
	for _, s := range wrongShapes() {
		list = append(list, featOf("a", s), featOf("a", s, tag("a", "x")))
	}
	for _, tags := range wrongTagLists() {
		list = append(list, featOf("a", line, tags...))
	}
	return list
}

func TestWordOk(t *testing.T) {
	for n := 1; n <= impl.WordMax; n++ {
		for _, letter := range []string{"a", "m", "z"} {
			if w := strings.Repeat(letter, n); !impl.WordOk(w) {
				t.Errorf("%q is refused", w)
			}
		}
	}
	for _, w := range wrongWords() {
		if impl.WordOk(w) {
			t.Errorf("%q is taken", w)
		}
	}
	for b := range 256 {
		letter := 'a' <= b && b <= 'z'
		for place := range impl.WordMax {
			w := []byte("middle")
			w[place] = byte(b)
			if impl.WordOk(string(w)) != letter {
				t.Errorf("%q: %v", w, !letter)
			}
		}
		if impl.WordOk(string([]byte{byte(b)})) != letter {
			t.Errorf("byte %d alone: %v", b, !letter)
		}
	}
}

func TestFeatOk(t *testing.T) {
	for _, f := range okFeats() {
		if !impl.FeatOk(f) {
			t.Errorf("%v is refused", f)
		}
	}
	for _, f := range wrongFeats() {
		if impl.FeatOk(f) {
			t.Errorf("%v is taken", f)
		}
	}
	empty := impl.Feat{Id: "a", Shape: shapeOf(impl.ShapeDot, pt(0, 0)), Tags: []impl.Tag{}}
	if !impl.FeatOk(empty) {
		t.Error("an empty list of tags is refused")
	}
}

// Every order of four tags, of which one alone is that of their bytes.
func TestFeatOkOfAllOrders(t *testing.T) {
	keys := []string{"a", "ab", "b", "c"}
	for n := range 256 {
		row := []string{keys[n%4], keys[n/4%4], keys[n/16%4], keys[n/64]}
		f := featOf("a", shapeOf(impl.ShapeDot, pt(0, 0)))
		for _, key := range row {
			f.Tags = append(f.Tags, tag(key, "x"))
		}
		if want := slices.Equal(row, keys); impl.FeatOk(f) != want {
			t.Errorf("%v: %v", row, !want)
		}
	}
}

// near are things of which each is another one than f in one part alone.
func near(f impl.Feat) []impl.Feat {
	var list []impl.Feat
	turned := func(turn func(g *impl.Feat)) {
		g := copyFeat(f)
		turn(&g)
		list = append(list, g)
	}
	turned(func(g *impl.Feat) { g.Id += "x" })
	turned(func(g *impl.Feat) { g.Shape.Kind ^= 1 })
	turned(func(g *impl.Feat) { g.Shape.Pts = append(g.Shape.Pts, pt(7, 7)) })
	turned(func(g *impl.Feat) { g.Tags = append(g.Tags, impl.Tag{}) })
	for i := range f.Shape.Pts {
		turned(func(g *impl.Feat) { g.Shape.Pts[i].X ^= 1 })
		turned(func(g *impl.Feat) { g.Shape.Pts[i].Y ^= 1 })
	}
	for i := range f.Tags {
		turned(func(g *impl.Feat) { g.Tags[i].Key += "x" })
		turned(func(g *impl.Feat) { g.Tags[i].Val += "x" })
		turned(func(g *impl.Feat) { g.Tags = slices.Delete(g.Tags, i, i+1) })
	}
	return list
}

func TestFeatSame(t *testing.T) {
	for _, f := range append(okFeats(), wrongFeats()...) {
		if len(f.Tags) > 100 || len(f.Shape.Pts) > 100 {
			continue
		}
		if !impl.FeatSame(f, copyFeat(f)) {
			t.Errorf("%v is not the same as its copy", f)
		}
		for _, g := range near(f) {
			if impl.FeatSame(f, g) || impl.FeatSame(g, f) {
				t.Errorf("%v is the same as %v", f, g)
			}
		}
	}
	a := impl.Feat{Id: "a"}
	b := impl.Feat{Id: "a", Shape: impl.Shape{Pts: []impl.Pt{}}, Tags: []impl.Tag{}}
	if !impl.FeatSame(a, b) || !impl.FeatSame(b, a) {
		t.Error("the empty list and the nil list are told apart")
	}
	c := featOf("a", impl.Shape{}, tag("a", "x"), tag("b", "y"))
	d := featOf("a", impl.Shape{}, tag("b", "y"), tag("a", "x"))
	if impl.FeatSame(c, d) {
		t.Error("the same tags in another order are the same")
	}
}

func TestFeatNotOkTellsNothing(t *testing.T) {
	for _, f := range wrongFeats() {
		keys := []string{"a", "b", "new", ""}
		for _, tg := range f.Tags[:min(len(f.Tags), 5)] {
			keys = append(keys, tg.Key)
		}
		for _, key := range keys {
			if v, has := impl.FeatGet(f, key); has || v != "" {
				t.Errorf("FeatGet of %v at %q: %q %v", f, key, v, has)
			}
			if g, ok := impl.FeatPut(f, key, "x"); ok || !isNoFeat(g) {
				t.Errorf("FeatPut of %v at %q: %v %v", f, key, g, ok)
			}
			if g, ok := impl.FeatCut(f, key); ok || !isNoFeat(g) {
				t.Errorf("FeatCut of %v at %q: %v %v", f, key, g, ok)
			}
		}
		if text := impl.FeatText(f); text != "" {
			t.Errorf("FeatText of %v: %q", f, text)
		}
	}
}

// What would be ok once something is put or cut is still not ok when it comes.
func TestFeatIsNotSetRight(t *testing.T) {
	dot := shapeOf(impl.ShapeDot, pt(0, 0))
	put := []impl.Feat{
		featOf("a", dot, tag("a", "")),
		featOf("a", dot, tag("b", "x"), tag("a", "x")),
		featOf("a", dot, tag("a", "x"), tag("a", "y")),
	}
	for _, f := range put {
		if g, ok := impl.FeatPut(f, "a", "x"); ok || !isNoFeat(g) {
			t.Errorf("FeatPut of %v: %v %v", f, g, ok)
		}
		if g, ok := impl.FeatCut(f, "a"); ok || !isNoFeat(g) {
			t.Errorf("FeatCut of %v: %v %v", f, g, ok)
		}
	}
	five := featOf("a", dot, tag("a", "x"), tag("b", "x"), tag("c", "x"), tag("d", "x"), tag("e", "x"))
	if g, ok := impl.FeatCut(five, "e"); ok || !isNoFeat(g) {
		t.Errorf("FeatCut of five tags: %v %v", g, ok)
	}
}

// valueAt looks for a key by walking the list.
func valueAt(tags []impl.Tag, key string) (string, bool) {
	for _, tg := range tags {
		if tg.Key == key {
			return tg.Val, true
		}
	}
	return "", false
}

// withValue is what FeatPut is asked for, made by walking the list.
func withValue(f impl.Feat, key string, val string) impl.Feat {
	g := copyFeat(f)
	for i, tg := range g.Tags {
		if tg.Key == key {
			g.Tags[i].Val = val
			return g
		}
		if tg.Key > key {
			g.Tags = slices.Insert(g.Tags, i, tag(key, val))
			return g
		}
	}
	g.Tags = append(g.Tags, tag(key, val))
	return g
}

func withoutKey(f impl.Feat, key string) impl.Feat {
	g := copyFeat(f)
	g.Tags = slices.DeleteFunc(g.Tags, func(tg impl.Tag) bool { return tg.Key == key })
	return g
}

func askedKeys() []string { return append(someKeys(), "aa", "m", "zzzzz", "new") }

func TestFeatGet(t *testing.T) {
	for _, f := range okFeats() {
		for _, key := range append(askedKeys(), wrongWords()...) {
			want, wantHas := valueAt(f.Tags, key)
			if v, has := impl.FeatGet(f, key); v != want || has != wantHas {
				t.Errorf("%v at %q: %q %v", f, key, v, has)
			}
		}
	}
}

func TestFeatPut(t *testing.T) {
	for _, f := range okFeats() {
		for _, key := range askedKeys() {
			for _, val := range []string{"a", "road", "zzzzzz"} {
				want := withValue(f, key, val)
				wantOk := len(want.Tags) <= impl.TagMost
				if !wantOk {
					want = impl.Feat{}
				}
				if g, ok := impl.FeatPut(f, key, val); ok != wantOk || !equalFeats(g, want) {
					t.Errorf("%v with %q at %q: %v %v", f, val, key, g, ok)
				}
			}
		}
		for _, w := range wrongWords() {
			if g, ok := impl.FeatPut(f, w, "x"); ok || !isNoFeat(g) {
				t.Errorf("%v with a value at %q: %v %v", f, w, g, ok)
			}
			for _, key := range someKeys() {
				if g, ok := impl.FeatPut(f, key, w); ok || !isNoFeat(g) {
					t.Errorf("%v with %q at %q: %v %v", f, w, key, g, ok)
				}
			}
		}
	}
}

func TestFeatPutIsGotAndTurnsNothingElse(t *testing.T) {
	for _, f := range okFeats() {
		for _, key := range askedKeys() {
			g, ok := impl.FeatPut(f, key, "new")
			if !ok {
				continue
			}
			if v, has := impl.FeatGet(g, key); !has || v != "new" {
				t.Errorf("%v: what was put at %q is got as %q %v", f, key, v, has)
			}
			if g.Id != f.Id || !impl.ShapeSame(g.Shape, f.Shape) {
				t.Errorf("%v: its name or shape is turned in %v", f, g)
			}
			for _, other := range askedKeys() {
				was, had := impl.FeatGet(f, other)
				if now, has := impl.FeatGet(g, other); other != key && (now != was || has != had) {
					t.Errorf("%v with %q put: %q has %q %v", f, key, other, now, has)
				}
			}
		}
	}
}

func TestFeatCut(t *testing.T) {
	for _, f := range okFeats() {
		for _, key := range append(askedKeys(), wrongWords()...) {
			want := impl.Feat{}
			_, wantOk := valueAt(f.Tags, key)
			if wantOk {
				want = withoutKey(f, key)
			}
			if g, ok := impl.FeatCut(f, key); ok != wantOk || !equalFeats(g, want) {
				t.Errorf("%v without %q: %v %v", f, key, g, ok)
			}
		}
	}
}

func TestFeatLiterals(t *testing.T) {
	f, _ := impl.FeatRead("a line 0,0 1,1 kind=road name=oak")
	steps := []struct {
		key, val, want string
	}{
		{"age", "old", "a line 0,0 1,1 age=old kind=road name=oak"},
		{"lane", "two", "a line 0,0 1,1 kind=road lane=two name=oak"},
		{"zone", "b", "a line 0,0 1,1 kind=road name=oak zone=b"},
		{"name", "elm", "a line 0,0 1,1 kind=road name=elm"},
		{"kind", "road", "a line 0,0 1,1 kind=road name=oak"},
		{"kinds", "x", "a line 0,0 1,1 kind=road kinds=x name=oak"},
		{"kin", "x", "a line 0,0 1,1 kin=x kind=road name=oak"},
	}
	for _, s := range steps {
		if g, ok := impl.FeatPut(f, s.key, s.val); !ok || impl.FeatText(g) != s.want {
			t.Errorf("%q at %q: %q %v", s.val, s.key, impl.FeatText(g), ok)
		}
	}
	none := featOf("b", shapeOf(impl.ShapeDot, pt(0, -2)))
	one, ok := impl.FeatPut(none, "kind", "well")
	if !ok || impl.FeatText(one) != "b dot 0,-2 kind=well" {
		t.Errorf("%v %v", one, ok)
	}
	if back, ok := impl.FeatCut(one, "kind"); !ok || impl.FeatText(back) != "b dot 0,-2" {
		t.Errorf("%v %v", back, ok)
	}
}

func TestFeatTextLiterals(t *testing.T) {
	cases := []struct {
		f    impl.Feat
		want string
	}{
		{featOf("b", shapeOf(impl.ShapeDot, pt(2, 5))), "b dot 2,5"},
		{featOf("a", shapeOf(impl.ShapeLine, pt(0, 0), pt(4, 4)), tag("kind", "road")), "a line 0,0 4,4 kind=road"},
		{featOf("zzzzzz", shapeOf(impl.ShapeRing, pt(-1000, 0), pt(2, 0), pt(0, 2)), tag("a", "b"), tag("aa", "a"), tag("b", "a"), tag("zzzzzz", "zzzzzz")),
			"zzzzzz ring -1000,0 2,0 0,2 a=b aa=a b=a zzzzzz=zzzzzz"},
		{featOf("dot", shapeOf(impl.ShapeDot, pt(0, 0)), tag("dot", "line")), "dot dot 0,0 dot=line"},
	}
	for _, c := range cases {
		if got := impl.FeatText(c.f); got != c.want {
			t.Errorf("%v: %q", c.f, got)
		}
		if got, ok := impl.FeatRead(c.want); !ok || !equalFeats(got, c.f) {
			t.Errorf("%q: %v %v", c.want, got, ok)
		}
	}
}

func TestFeatIsReadFromItsText(t *testing.T) {
	for _, f := range okFeats() {
		if got, ok := impl.FeatRead(impl.FeatText(f)); !ok || !equalFeats(got, f) {
			t.Errorf("%v is read as %v %v", f, got, ok)
		}
	}
}

func TestFeatReadRefuses(t *testing.T) {
	longest := "zzzzzz ring" + strings.Repeat(" -1000,-1000 -1000,-999", 3) +
		" aaaaaa=zzzzzz bbbbbb=zzzzzz cccccc=zzzzzz dddddd=zzzzzz"
	wrong := []string{
		"", " ", "  ", "\n", "a", "a ", "dot", "dot 0,0", " dot 0,0", "a dot", "a dot ", "a 0,0", "a=b", "a a=b", "=", "a =",
		"A dot 0,0", "aaaaaaa dot 0,0", "a1 dot 0,0", "` dot 0,0", "{ dot 0,0", "a=b dot 0,0", "a b dot 0,0",
		" a dot 0,0", "a  dot 0,0", "a dot  0,0", "a dot 0,0 ", "a dot 0,0\n", "a\tdot 0,0", "adot 0,0", "a dot0,0",
		"a dot 0,0  a=b", "a dot 0,0 a=b ", "a dot 0,0 a=b  b=c", " a dot 0,0 a=b", "a dot 0,0 a=b\n", "a dot 0,0\ta=b",
		"a dot 0,0a=b", "a dot 0,0 a=bb=c", "a dot 0,0 a = b", "a dot 0,0 a= b", "a dot 0,0 a =b",
		"a dot 0,0 a", "a dot 0,0 ab", "a dot 0,0 a:b", "a dot 0,0 a=", "a dot 0,0 =b", "a dot 0,0 =", "a dot 0,0 ==",
		"a dot 0,0 a==b", "a dot 0,0 a=b=", "a dot 0,0 =a=b", "a dot 0,0 a=b=c", "a dot 0,0 a=b c=d=e",
		"a dot 0,0 A=b", "a dot 0,0 a=B", "a dot 0,0 aaaaaaa=b", "a dot 0,0 a=bbbbbbb", "a dot 0,0 a=1", "a dot 0,0 `=b", "a dot 0,0 a={",
		"a dot 0,0 a=b a=b", "a dot 0,0 a=b a=c", "a dot 0,0 b=a a=b", "a dot 0,0 ab=x a=x", "a dot 0,0 a=x c=x b=x",
		"a dot 0,0 a=x b=x c=x d=x e=x", "a dot 0,0 a=b 1,1", "a line 0,0 a=b 1,1", "a line 0,0 1,1 a=b 2,2", "a line 0,0 1,1 a=b 2,2 c=d",
		"a a=b dot 0,0", "a=b a dot 0,0", "a dot a=b 0,0", "a dot 0,0 a=b c", "a dot 0,0 a=b dot 0,0", "a dot 0,0 a=b  ",
		"a fly 0,0", "a fly 0,0 a=b", "a dot 1001,0", "a dot 01,0 a=b", "a line 0,0 a=b", "a line 0,0 0,0", "a ring 0,0 1,0 0,0 a=b",
		"a dot 0,0\x00", "\xff dot 0,0", "a dot 0,0 \xff=a", "a dot 0,0 a=\u00e9",
		longest + " ", longest + " e=x", longest + " eeeeee=zzzzzz",
		longest + strings.Repeat(" ", 200-len(longest)),
		longest + strings.Repeat(" ", 201-len(longest)),
		"a dot 0,0 a=" + strings.Repeat("b", 200-12),
		"a dot 0,0 a=" + strings.Repeat("b", 201-12),
		strings.Repeat("a", 200), strings.Repeat("a=b ", 5000), "a dot 0,0" + strings.Repeat(" a=b", 5000),
	}
	for _, text := range wrong {
		if got, ok := impl.FeatRead(text); ok || !isNoFeat(got) {
			t.Errorf("%q: %v %v", text, got, ok)
		}
	}
	if got, ok := impl.FeatRead(longest); !ok || impl.FeatText(got) != longest {
		t.Errorf("%q: %v %v", longest, got, ok)
	}
}

// Whatever bytes a text has, it is read only if it is the text of what is read.
func TestFeatReadOfChangedTexts(t *testing.T) {
	asked := func(text string) {
		got, ok := impl.FeatRead(text)
		if ok && (!impl.FeatOk(got) || impl.FeatText(got) != text) || !ok && !isNoFeat(got) {
			t.Fatalf("%q: %v %v", text, got, ok)
		}
	}
	for _, f := range okFeats() {
		text := impl.FeatText(f)
		for i := range len(text) + 1 {
			for _, b := range []byte("01-, =abz`{\n\x00\xff") {
				asked(text[:i] + string([]byte{b}) + text[i:])
			}
			if i < len(text) {
				asked(text[:i] + text[i+1:])
			}
		}
		words := strings.Split(text, " ")
		for i := range words {
			for k := range words {
				swapped := slices.Clone(words)
				swapped[i], swapped[k] = swapped[k], swapped[i]
				asked(strings.Join(swapped, " "))
			}
		}
	}
}

// roomyFeat is a thing whose points and tags lie ahead of other ones; those pieces of memory come with it.
func roomyFeat(f impl.Feat) (impl.Feat, []impl.Pt, []impl.Tag) {
	s, pts := roomy(f.Shape)
	tags := append(slices.Clone(f.Tags), tag("p", "q"), tag("r", "s"), tag("t", "u"))
	return impl.Feat{Id: f.Id, Shape: s, Tags: tags[:len(f.Tags)]}, pts, tags
}

func overwriteTags(f impl.Feat) {
	room := f.Tags[:cap(f.Tags)]
	for i := range room {
		room[i] = tag("over", "over")
	}
}

func TestFeatLeavesArgumentsAlone(t *testing.T) {
	for _, f := range append(okFeats(), wrongFeats()...) {
		given, pts, tags := roomyFeat(f)
		ptsWere, tagsWere := slices.Clone(pts), slices.Clone(tags)
		unturned := func() bool { return slices.Equal(pts, ptsWere) && slices.Equal(tags, tagsWere) }
		var answers []impl.Feat
		for _, key := range askedKeys() {
			put, _ := impl.FeatPut(given, key, "new")
			cut, _ := impl.FeatCut(given, key)
			impl.FeatGet(given, key)
			answers = append(answers, put, cut)
		}
		impl.FeatOk(given)
		impl.FeatSame(given, given)
		impl.FeatText(given)
		if !unturned() {
			t.Fatalf("a call has written into %v", f)
		}
		for i, a := range answers {
			kept := copyFeat(a)
			overwrite(given.Shape)
			overwriteTags(given)
			if !equalFeats(a, kept) {
				t.Errorf("answer %d of %v shares memory with it", i, f)
			}
			copy(pts, ptsWere)
			copy(tags, tagsWere)
			overwrite(a.Shape)
			overwriteTags(a)
			if !unturned() {
				t.Errorf("answer %d of %v shares memory with it", i, f)
			}
		}
	}
}

// All answers of one thing stand beside each other: none of them may be written through another one.
func TestFeatAnswersShareNothingWithEachOther(t *testing.T) {
	f, _ := impl.FeatRead("a line 0,0 1,1 kind=road name=oak")
	again, _ := impl.FeatRead("a line 0,0 1,1 kind=road name=oak")
	put, _ := impl.FeatPut(f, "kind", "road")
	more, _ := impl.FeatPut(put, "zone", "b")
	cut, _ := impl.FeatCut(more, "zone")
	answers := []impl.Feat{f, again, put, more, cut}
	for i := range answers {
		kept := make([]impl.Feat, len(answers))
		for k := range answers {
			kept[k] = copyFeat(answers[k])
		}
		overwrite(answers[i].Shape)
		overwriteTags(answers[i])
		for k := range answers {
			if k != i && !equalFeats(answers[k], kept[k]) {
				t.Errorf("answers %d and %d share memory", i, k)
			}
		}
	}
	if g, ok := impl.FeatRead("a line 0,0 1,1 kind=road name=oak"); !ok || impl.FeatText(g) != "a line 0,0 1,1 kind=road name=oak" {
		t.Errorf("what was answered once comes again as it was turned: %v", g)
	}
}

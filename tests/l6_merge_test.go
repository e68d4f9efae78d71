package tests

import (
	"slices"
	"strconv"
	"strings"
	"testing"

	"loop.example/townland/impl"
)

// wantedOf is what comes of three texts of which the empty one is none; false, if two turned the first otherwise.
func wantedOf(was string, a string, b string) (string, bool) {
	if a == was {
		return b, true
	}
	if b == was || a == b {
		return a, true
	}
	return "", false
}

func wantedShape(was impl.Shape, a impl.Shape, b impl.Shape) (string, []string) {
	if text, ok := wantedOf(impl.ShapeText(was), impl.ShapeText(a), impl.ShapeText(b)); ok {
		return text, nil
	}
	if was.Kind == a.Kind && was.Kind == b.Kind {
		pts, ok := impl.SeqMerge(was.Pts, a.Pts, b.Pts)
		if text := impl.ShapeText(shapeOf(was.Kind, pts...)); ok && text != "" {
			return text, nil
		}
	}
	return impl.ShapeText(a), []string{"shape"}
}

// keysOf are the keys of all these things, in order, each once.
func keysOf(feats ...impl.Feat) []string {
	var keys []string
	for _, f := range feats {
		for _, g := range f.Tags {
			keys = append(keys, g.Key)
		}
	}
	slices.Sort(keys)
	return slices.Compact(keys)
}

// wantedFeat is the text of what FeatJoin is asked for, and what clashes, made of texts; the three are ok.
func wantedFeat(was impl.Feat, a impl.Feat, b impl.Feat) (string, []string) {
	shape, clashes := wantedShape(was.Shape, a.Shape, b.Shape)
	text, tags := was.Id+" "+shape, 0
	for _, key := range keysOf(was, a, b) {
		valWas, _ := valueAt(was.Tags, key)
		valA, _ := valueAt(a.Tags, key)
		valB, _ := valueAt(b.Tags, key)
		val, ok := wantedOf(valWas, valA, valB)
		if !ok {
			clashes = append(clashes, "tag "+key)
			val = valA
			if val == "" {
				val = valB
			}
		}
		if val != "" {
			text += " " + key + "=" + val
			tags++
		}
	}
	if tags > 4 {
		return impl.FeatText(a), []string{"much"}
	}
	return text, clashes
}

// wantedSheet is the text of what SheetJoin is asked for, and of what clashes, made of texts; the three are ok.
func wantedSheet(was []impl.Feat, a []impl.Feat, b []impl.Feat) (string, string, bool) {
	text, told, things := "", "", 0
	for _, name := range namesOf(was, a, b) {
		f, _ := thingAt(was, name)
		g, _ := thingAt(a, name)
		h, _ := thingAt(b, name)
		comes, ok := wantedOf(impl.FeatText(f), impl.FeatText(g), impl.FeatText(h))
		var clashes []string
		switch {
		case ok:
		case g.Id == "":
			comes, clashes = impl.FeatText(h), []string{"gone"}
		case h.Id == "":
			comes, clashes = impl.FeatText(g), []string{"gone"}
		case f.Id == "":
			comes, clashes = impl.FeatText(g), []string{"both"}
		default:
			comes, clashes = wantedFeat(f, g, h)
		}
		if comes != "" {
			text += comes + "\n"
			things++
		}
		for _, what := range clashes {
			told += name + ": " + what + "\n"
		}
	}
	if things > 8 {
		return "", "", false
	}
	return text, told, true
}

func holdFeatJoin(t *testing.T, was impl.Feat, a impl.Feat, b impl.Feat) []string {
	t.Helper()
	f, clashes := impl.FeatJoin(was, a, b)
	text, wanted := wantedFeat(was, a, b)
	if got := impl.FeatText(f); got == "" || got != text || !slices.Equal(clashes, wanted) {
		t.Fatalf("%q %q %q: %q %q, not %q %q", impl.FeatText(was), impl.FeatText(a), impl.FeatText(b), got, clashes, text, wanted)
	}
	return clashes
}

func holdSheetJoin(t *testing.T, was []impl.Feat, a []impl.Feat, b []impl.Feat) bool {
	t.Helper()
	s, clashes, ok := impl.SheetJoin(was, a, b)
	text, told, wantedOk := wantedSheet(was, a, b)
	if impl.SheetText(s) != text || impl.ClashText(clashes) != told || ok != wantedOk || !impl.SheetOk(s) {
		t.Fatalf("%q %q %q: %q %q %v, not %q %q %v", impl.SheetText(was), impl.SheetText(a), impl.SheetText(b),
			impl.SheetText(s), impl.ClashText(clashes), ok, text, told, wantedOk)
	}
	return ok
}

// joinCase is the texts of three things without their name, what comes, and what clashes, with commas between.
type joinCase struct{ base, a, b, want, clashes string }

// holdFeatCases asks each case, and the other hand first too, if that is to be all one.
func holdFeatCases(t *testing.T, cases []joinCase, sameEitherWay bool) {
	t.Helper()
	asked := func(base string, a string, b string, want string, clashes string) {
		t.Helper()
		f, what := impl.FeatJoin(readFeat(t, "a "+base), readFeat(t, "a "+a), readFeat(t, "a "+b))
		if impl.FeatText(f) != "a "+want || strings.Join(what, ",") != clashes {
			t.Errorf("%q %q %q: %q %q, not %q %q", base, a, b, impl.FeatText(f), what, want, clashes)
		}
	}
	for _, c := range cases {
		asked(c.base, c.a, c.b, c.want, c.clashes)
		if sameEitherWay {
			asked(c.base, c.b, c.a, c.want, c.clashes)
		}
	}
}

func TestFeatJoinOfShapes(t *testing.T) {
	holdFeatCases(t, []joinCase{
		// One hand alone, also to another Kind; and both alike.
		{"dot 0,0", "dot 0,0", "dot 0,0", "dot 0,0", ""},
		{"dot 0,0", "dot 1,0", "dot 0,0", "dot 1,0", ""},
		{"dot 0,0", "line 0,0 1,1", "dot 0,0", "line 0,0 1,1", ""},
		{"line 0,0 1,1 2,0", "ring 0,0 1,1 2,0", "line 0,0 1,1 2,0", "ring 0,0 1,1 2,0", ""},
		{"ring 0,0 1,1 2,0", "ring 1,1 2,0 0,0", "ring 0,0 1,1 2,0", "ring 1,1 2,0 0,0", ""},
		{"dot 0,0", "dot 0,1", "dot 0,1", "dot 0,1", ""},
		{"dot 0,0", "ring 0,0 1,1 2,0", "ring 0,0 1,1 2,0", "ring 0,0 1,1 2,0", ""},
		{"line 0,0 1,1", "line 1,1 0,0", "line 1,1 0,0", "line 1,1 0,0", ""},
		// Both, at different points.
		{"line 0,0 1,1", "line 5,5 0,0 1,1", "line 0,0 1,1 6,6", "line 5,5 0,0 1,1 6,6", ""},
		{"line 0,0 1,1 2,2", "line 0,0 5,5 1,1 2,2", "line 0,0 1,1 6,6 2,2", "line 0,0 5,5 1,1 6,6 2,2", ""},
		{"line 0,0 1,1 2,2 3,3", "line 0,0 2,2 3,3", "line 0,0 1,1 2,2 9,9", "line 0,0 2,2 9,9", ""},
		{"ring 0,0 4,0 4,4 0,4", "ring 0,0 2,-1 4,0 4,4 0,4", "ring 0,0 4,0 4,4 2,5 0,4", "ring 0,0 2,-1 4,0 4,4 2,5 0,4", ""},
		{"ring 0,0 4,0 4,4 0,4", "ring 4,0 4,4 0,4", "ring 0,0 4,0 4,4 1,4", "ring 4,0 4,4 1,4", ""},
		// Just so many points as a shape has at most, and just so few as are one.
		{"line 0,0 1,1", "line 5,5 6,6 0,0 1,1", "line 0,0 1,1 7,7 8,8", "line 5,5 6,6 0,0 1,1 7,7 8,8", ""},
		{"line 0,0 1,1 2,2 3,3", "line 1,1 2,2 3,3", "line 0,0 1,1 2,2", "line 1,1 2,2", ""},
		{"ring 0,0 1,0 2,2 3,4 5,5", "ring 1,0 2,2 3,4 5,5", "ring 0,0 1,0 2,2 3,4", "ring 1,0 2,2 3,4", ""},
	}, true)
	holdFeatCases(t, []joinCase{
		// A row of points that cannot be joined.
		{"dot 0,0", "dot 1,0", "dot 2,0", "dot 1,0", "shape"},
		{"dot 0,0", "dot 2,0", "dot 1,0", "dot 2,0", "shape"},
		{"line 0,0 1,1", "line 0,0 5,5 1,1", "line 0,0 6,6 1,1", "line 0,0 5,5 1,1", "shape"},
		{"line 0,0 1,1", "line 0,0 6,6 1,1", "line 0,0 5,5 1,1", "line 0,0 6,6 1,1", "shape"},
		{"ring 0,0 4,0 4,4", "ring 0,0 4,0 5,5", "ring 0,0 4,0 6,6", "ring 0,0 4,0 5,5", "shape"},
		// A row that is joined, and is no shape: too many points, too few, or a ring that ends where it begins.
		{"line 0,0 1,1", "line 5,5 6,6 0,0 1,1", "line 0,0 1,1 7,7 8,8 9,9", "line 5,5 6,6 0,0 1,1", "shape"},
		{"line 0,0 1,1", "line 0,0 1,1 7,7 8,8 9,9", "line 5,5 6,6 0,0 1,1", "line 0,0 1,1 7,7 8,8 9,9", "shape"},
		{"line 0,0 1,1 2,2", "line 1,1 2,2", "line 0,0 1,1", "line 1,1 2,2", "shape"},
		{"line 0,0 1,1 2,2", "line 0,0 1,1", "line 1,1 2,2", "line 0,0 1,1", "shape"},
		{"ring 0,0 1,0 2,2 3,4", "ring 1,0 2,2 3,4", "ring 0,0 1,0 2,2", "ring 1,0 2,2 3,4", "shape"},
		{"ring 0,0 1,0 2,2", "ring 9,9 0,0 1,0 2,2", "ring 0,0 1,0 2,2 9,9", "ring 9,9 0,0 1,0 2,2", "shape"},
		{"ring 0,0 1,0 2,2", "ring 0,0 1,0 2,2 9,9", "ring 9,9 0,0 1,0 2,2", "ring 0,0 1,0 2,2 9,9", "shape"},
		// Not all three of one Kind, though the points can be joined to a shape of any of these.
		{"line 0,0 1,1 2,0", "ring 8,8 0,0 1,1 2,0", "ring 0,0 1,1 2,0 9,9", "ring 8,8 0,0 1,1 2,0", "shape"},
		{"line 0,0 1,1 2,0", "ring 8,8 0,0 1,1 2,0", "line 0,0 1,1 2,0 9,9", "ring 8,8 0,0 1,1 2,0", "shape"},
		{"line 0,0 1,1 2,0", "line 8,8 0,0 1,1 2,0", "ring 0,0 1,1 2,0 9,9", "line 8,8 0,0 1,1 2,0", "shape"},
		{"ring 0,0 1,1 2,0", "line 8,8 0,0 1,1 2,0", "line 0,0 1,1 2,0 9,9", "line 8,8 0,0 1,1 2,0", "shape"},
		{"ring 0,0 1,1 2,0", "line 0,0 1,1 2,0", "ring 0,0 1,1 2,0 9,9", "line 0,0 1,1 2,0", "shape"},
		{"ring 0,0 1,1 2,0", "ring 0,0 1,1 2,0 9,9", "line 0,0 1,1 2,0", "ring 0,0 1,1 2,0 9,9", "shape"},
		{"dot 0,0", "line 0,0 1,1", "ring 0,0 1,1 2,0", "line 0,0 1,1", "shape"},
		{"dot 0,0", "ring 0,0 1,1 2,0", "line 0,0 1,1", "ring 0,0 1,1 2,0", "shape"},
		{"dot 0,0", "line 0,0 1,1", "dot 1,0", "line 0,0 1,1", "shape"},
	}, false)
}

func TestFeatJoinOfTags(t *testing.T) {
	holdFeatCases(t, []joinCase{
		// One hand alone: a key that comes, goes, and is turned.
		{"dot 0,0", "dot 0,0 k=x", "dot 0,0", "dot 0,0 k=x", ""},
		{"dot 0,0 k=x", "dot 0,0", "dot 0,0 k=x", "dot 0,0", ""},
		{"dot 0,0 k=x", "dot 0,0 k=y", "dot 0,0 k=x", "dot 0,0 k=y", ""},
		// Both alike.
		{"dot 0,0", "dot 0,0 k=x", "dot 0,0 k=x", "dot 0,0 k=x", ""},
		{"dot 0,0 k=x", "dot 0,0", "dot 0,0", "dot 0,0", ""},
		{"dot 0,0 k=x", "dot 0,0 k=y", "dot 0,0 k=y", "dot 0,0 k=y", ""},
		// At different keys, with what stays ahead, between and behind.
		{"dot 0,0 a=x c=x e=x", "dot 0,0 a=x b=y c=x e=x", "dot 0,0 a=x c=x", "dot 0,0 a=x b=y c=x", ""},
		{"dot 0,0 a=x b=x", "dot 0,0 a=y b=x", "dot 0,0 a=x b=y", "dot 0,0 a=y b=y", ""},
		{"dot 0,0 a=x b=x", "dot 0,0 a=x", "dot 0,0 b=x", "dot 0,0", ""},
		{"dot 0,0", "dot 0,0 b=x", "dot 0,0 a=x", "dot 0,0 a=x b=x", ""},
		{"dot 0,0", "dot 0,0 a=x zzz=x", "dot 0,0 aa=x zz=x", "dot 0,0 a=x aa=x zz=x zzz=x", ""},
		{"line 0,0 1,1 k=x", "line 0,0 1,1 2,2 k=x", "line 0,0 1,1 k=y", "line 0,0 1,1 2,2 k=y", ""},
		// A value that moves to another key is two keys.
		{"dot 0,0 a=x", "dot 0,0 b=x", "dot 0,0 a=x", "dot 0,0 b=x", ""},
		{"dot 0,0 a=x", "dot 0,0 b=x", "dot 0,0 b=x", "dot 0,0 b=x", ""},
		// Dropped by one and turned by the other: whichever hand is the first, it is the value that there is.
		{"dot 0,0 k=x", "dot 0,0", "dot 0,0 k=y", "dot 0,0 k=y", "tag k"},
		{"dot 0,0 a=x k=x", "dot 0,0 a=y", "dot 0,0 a=x k=y", "dot 0,0 a=y k=y", "tag k"},
		{"dot 0,0 a=x", "dot 0,0 b=x", "dot 0,0 a=y", "dot 0,0 a=y b=x", "tag a"},
	}, true)
	holdFeatCases(t, []joinCase{
		{"dot 0,0", "dot 0,0 k=x", "dot 0,0 k=y", "dot 0,0 k=x", "tag k"},
		{"dot 0,0", "dot 0,0 k=y", "dot 0,0 k=x", "dot 0,0 k=y", "tag k"},
		{"dot 0,0 k=z", "dot 0,0 k=x", "dot 0,0 k=y", "dot 0,0 k=x", "tag k"},
		{"dot 0,0 k=z", "dot 0,0 k=y", "dot 0,0 k=x", "dot 0,0 k=y", "tag k"},
		// Several, in order: the shape, and then the keys by their bytes.
		{"dot 0,0 kind=road", "dot 1,0 kind=path", "dot 2,0 kind=way", "dot 1,0 kind=path", "shape,tag kind"},
		{"dot 0,0 a=x b=x c=x d=x", "dot 0,0 a=y b=y c=y d=y", "dot 0,0 a=z b=z c=z d=z", "dot 0,0 a=y b=y c=y d=y", "tag a,tag b,tag c,tag d"},
		{"dot 0,0 a=x b=x", "dot 1,1 a=y", "dot 2,2 b=y z=y", "dot 1,1 a=y b=y z=y", "shape,tag a,tag b"},
		{"dot 0,0 b=x", "dot 1,1 a=y aa=y b=y", "dot 2,2 a=z aa=z", "dot 1,1 a=y aa=y b=y", "shape,tag a,tag aa,tag b"},
		{"dot 0,0", "dot 0,0 shape=a tag=a", "dot 0,0 shape=b tag=b", "dot 0,0 shape=a tag=a", "tag shape,tag tag"},
		// What does not clash, beside what does.
		{"line 0,0 1,1 a=x b=x", "line 5,5 0,0 1,1 a=y b=x", "line 0,0 1,1 6,6 a=z b=y", "line 5,5 0,0 1,1 6,6 a=y b=y", "tag a"},
		{"dot 0,0 a=x", "dot 1,1 a=x b=y", "dot 2,2 c=y", "dot 1,1 b=y c=y", "shape"},
	}, false)
}

func TestFeatJoinMeetsTagMostExactly(t *testing.T) {
	holdFeatCases(t, []joinCase{
		{"dot 0,0", "dot 0,0 a=x b=x", "dot 0,0 c=x d=x", "dot 0,0 a=x b=x c=x d=x", ""},
		{"dot 0,0 a=x b=x c=x", "dot 0,0 a=x b=x c=x d=x", "dot 0,0 a=x b=x c=x", "dot 0,0 a=x b=x c=x d=x", ""},
		{"dot 0,0", "dot 0,0 a=x b=x c=x d=x", "dot 0,0 a=x b=x c=x d=x", "dot 0,0 a=x b=x c=x d=x", ""},
		// Eight keys in all, of which four go.
		{"dot 0,0 a=x b=x c=x d=x", "dot 0,0 c=x d=x e=x f=x", "dot 0,0 a=x b=x y=x z=x", "dot 0,0 e=x f=x y=x z=x", ""},
		{"dot 0,0 a=x b=x c=x d=x", "dot 0,0 b=x c=x d=x e=x", "dot 0,0 b=x c=x d=x e=x", "dot 0,0 b=x c=x d=x e=x", ""},
	}, true)
	holdFeatCases(t, []joinCase{
		{"dot 0,0", "dot 0,0 a=x b=x", "dot 0,0 c=x d=x e=x", "dot 0,0 a=x b=x", "much"},
		{"dot 0,0", "dot 0,0 c=x d=x e=x", "dot 0,0 a=x b=x", "dot 0,0 c=x d=x e=x", "much"},
		{"dot 0,0", "dot 0,0 a=x b=x c=x d=x", "dot 0,0 e=x", "dot 0,0 a=x b=x c=x d=x", "much"},
		{"dot 0,0", "dot 0,0 a=x b=x c=x d=x", "dot 0,0 e=x f=x g=x h=x", "dot 0,0 a=x b=x c=x d=x", "much"},
		{"dot 0,0 a=x b=x c=x", "dot 0,0 a=x b=x c=x d=x", "dot 0,0 a=x b=x c=x e=x", "dot 0,0 a=x b=x c=x d=x", "much"},
		// One that both dropped is not too much; one that one turned and the other dropped is.
		{"dot 0,0 a=x b=x c=x d=x", "dot 0,0 b=x c=x d=x e=x", "dot 0,0 b=x c=x d=x", "dot 0,0 b=x c=x d=x e=x", ""},
		{"dot 0,0 a=x b=x c=x d=x", "dot 0,0 b=x c=x d=x e=x", "dot 0,0 a=y b=x c=x d=x", "dot 0,0 b=x c=x d=x e=x", "much"},
		{"dot 0,0 a=x b=x c=x d=x", "dot 0,0 a=y b=x c=x d=x", "dot 0,0 b=x c=x d=x e=x", "dot 0,0 a=y b=x c=x d=x", "much"},
		// It is told alone, and all of the thing is that of the first hand.
		{"dot 0,0 k=x", "dot 1,1 a=x b=x k=y", "dot 2,2 c=x d=x k=z", "dot 1,1 a=x b=x k=y", "much"},
		{"dot 0,0 k=x", "dot 0,0 a=x b=x k=x", "dot 2,2 c=x d=x k=z", "dot 0,0 a=x b=x k=x", "much"},
		{"line 0,0 1,1", "line 5,5 0,0 1,1 a=x b=x c=x", "line 0,0 1,1 6,6 d=x e=x", "line 5,5 0,0 1,1 a=x b=x c=x", "much"},
	}, false)
}

// smallTags are all tags of two keys with, each, no value or one of two.
func smallTags() [][]impl.Tag {
	lists := [][]impl.Tag{nil}
	for _, key := range []string{"k", "m"} {
		for _, tags := range slices.Clone(lists) {
			for _, val := range []string{"x", "y"} {
				lists = append(lists, append(slices.Clone(tags), tag(key, val)))
			}
		}
	}
	return lists
}

// smallSets are all sets of at most four of these keys, all of one value.
func smallSets(val string, keys ...string) [][]impl.Tag {
	var lists [][]impl.Tag
	for set := range 1 << len(keys) {
		var tags []impl.Tag
		for i, key := range keys {
			if set>>i&1 == 1 {
				tags = append(tags, tag(key, val))
			}
		}
		if len(tags) <= impl.TagMost {
			lists = append(lists, tags)
		}
	}
	return lists
}

// joinShapes are shapes of all kinds, of which many pairs can be joined, and many not.
func joinShapes(t *testing.T) []impl.Shape {
	var list []impl.Shape
	for _, text := range []string{
		"dot 0,0", "dot 1,1", "line 0,0 1,1", "line 0,0 1,1 2,0", "line 7,7 0,0 1,1 2,0", "line 0,0 1,1 2,0 8,8",
		"line 0,0 6,6 1,1 2,0", "line 1,1 2,0", "line 0,0 2,0", "line 7,7 6,6 5,5 0,0 1,1 2,0", "line 0,0 1,1 2,0 8,8 9,9",
		"ring 0,0 1,1 2,0", "ring 7,7 0,0 1,1 2,0", "ring 0,0 1,1 2,0 7,7", "ring 0,0 1,1 2,0 8,8", "ring 1,1 2,0 0,0", "ring 0,0 6,6 1,1 2,0",
	} {
		s, ok := impl.ShapeRead(text)
		if !ok {
			t.Fatalf("%q is no shape", text)
		}
		list = append(list, s)
	}
	return list
}

// countClashes counts how often each thing that clashes is told.
func countClashes(counts map[string]int, clashes []string) {
	for _, what := range clashes {
		counts[what]++
	}
	if len(clashes) == 0 {
		counts["none"]++
	}
}

func TestFeatJoinOfAllSmallThings(t *testing.T) {
	counts := map[string]int{}
	dot := shapeOf(impl.ShapeDot, pt(3, 4))
	for _, was := range smallTags() {
		for _, a := range smallTags() {
			for _, b := range smallTags() {
				countClashes(counts, holdFeatJoin(t, featOf("oak", dot, was...), featOf("oak", dot, a...), featOf("oak", dot, b...)))
			}
		}
	}
	for _, was := range joinShapes(t) {
		for _, a := range joinShapes(t) {
			for _, b := range joinShapes(t) {
				countClashes(counts, holdFeatJoin(t, featOf("oak", was), featOf("oak", a), featOf("oak", b)))
				countClashes(counts, holdFeatJoin(t, featOf("oak", was, tag("k", "x")), featOf("oak", a, tag("k", "y")), featOf("oak", b)))
			}
		}
	}
	for _, what := range []string{"none", "shape", "tag k", "tag m"} {
		if counts[what] < 100 {
			t.Errorf("%q is told %d times", what, counts[what])
		}
	}
}

func TestFeatJoinOfManyTags(t *testing.T) {
	counts := map[string]int{}
	line, longer := shapeOf(impl.ShapeLine, zigzag(2)...), shapeOf(impl.ShapeLine, zigzag(4)...)
	for _, was := range smallSets("x", "a", "b", "c", "d", "e") {
		for _, a := range smallSets("x", "a", "b", "c", "d", "e") {
			for _, b := range smallSets("x", "b", "c", "d", "e", "f") {
				countClashes(counts, holdFeatJoin(t, featOf("oak", line, was...), featOf("oak", longer, a...), featOf("oak", line, b...)))
			}
		}
	}
	dot := func(x int) impl.Shape { return shapeOf(impl.ShapeDot, pt(x, 0)) }
	for _, was := range smallSets("x", "a", "b", "c") {
		for _, a := range smallSets("y", "a", "b", "c", "d", "e") {
			for _, b := range smallSets("z", "a", "c", "d", "e", "f") {
				countClashes(counts, holdFeatJoin(t, featOf("oak", dot(0), was...), featOf("oak", dot(1), a...), featOf("oak", dot(2), b...)))
			}
		}
	}
	for _, what := range []string{"none", "much", "shape", "tag a", "tag e"} {
		if counts[what] < 100 {
			t.Errorf("%q is told %d times", what, counts[what])
		}
	}
	if counts["tag f"] != 0 {
		t.Error("a key clashes that one hand alone has")
	}
}

// Promise 6: what one hand alone turned of a thing is all that is turned, and what both turned alike is turned once.
func TestFeatJoinOfOneHandAlone(t *testing.T) {
	var list []impl.Feat
	for i, s := range okShapes() {
		for k, tags := range tagLists() {
			if (i+k)%3 == 0 {
				list = append(list, featOf("oak", s, tags...))
			}
		}
	}
	for i, base := range list {
		for k := range 40 {
			a := list[(i*7+k*11)%len(list)]
			for _, c := range [][3]impl.Feat{{base, a, base}, {base, base, a}, {base, a, a}} {
				if f, clashes := impl.FeatJoin(c[0], c[1], c[2]); !equalFeats(f, a) || len(clashes) != 0 {
					t.Fatalf("%v %v %v: %v %q", c[0], c[1], c[2], f, clashes)
				}
			}
		}
	}
}

// Promise 6: of each part of a thing, what comes is that of the hand that turned it, or it is told to clash.
func TestFeatJoinLosesNothing(t *testing.T) {
	dot := func(x int) impl.Shape { return shapeOf(impl.ShapeDot, pt(x, 0)) }
	tags := smallTags()
	for n := range len(tags) * len(tags) * len(tags) * 27 {
		place := n / 27
		was := featOf("oak", dot(n%3), tags[place%9]...)
		a := featOf("oak", dot(n/3%3), tags[place/9%9]...)
		b := featOf("oak", dot(n/9%3), tags[place/81]...)
		f, clashes := impl.FeatJoin(was, a, b)
		parts := func(f impl.Feat) map[string]string {
			list := map[string]string{"shape": impl.ShapeText(f.Shape)}
			for _, key := range keysOf(was, a, b, f) {
				list["tag "+key], _ = valueAt(f.Tags, key)
			}
			return list
		}
		before, first, second, now := parts(was), parts(a), parts(b), parts(f)
		for what := range now {
			byFirst, bySecond := first[what] != before[what], second[what] != before[what]
			clash := byFirst && bySecond && first[what] != second[what]
			if slices.Contains(clashes, what) != clash {
				t.Fatalf("%v %v %v: %q clashes: %v", was, a, b, what, !clash)
			}
			if !clash && (byFirst && now[what] != first[what] || bySecond && now[what] != second[what]) {
				t.Fatalf("%v %v %v: %q is lost", was, a, b, what)
			}
			if !slices.Contains([]string{before[what], first[what], second[what]}, now[what]) {
				t.Fatalf("%v %v %v: %q is %q, which nobody made", was, a, b, what, now[what])
			}
		}
	}
}

func TestFeatJoinNotOkTellsNothing(t *testing.T) {
	good := featOf("a", shapeOf(impl.ShapeLine, pt(0, 0), pt(4, 4)), tag("k", "x"))
	other := featOf("a", shapeOf(impl.ShapeLine, pt(0, 0), pt(4, 4), pt(5, 5)))
	refused := func(base impl.Feat, a impl.Feat, b impl.Feat, what string) {
		t.Helper()
		if f, clashes := impl.FeatJoin(base, a, b); !isNoFeat(f) || len(clashes) != 0 {
			t.Errorf("%s: %v %q", what, f, clashes)
		}
	}
	for i, bad := range wrongFeats() {
		// Also where it is of one name with the others, and where nothing else is turned.
		for _, f := range []impl.Feat{good, featOf(bad.Id, good.Shape), bad} {
			what := "wrong thing " + strconv.Itoa(i)
			refused(bad, f, f, what)
			refused(f, bad, f, what)
			refused(f, f, bad, what)
		}
		refused(bad, good, other, "wrong base "+strconv.Itoa(i))
		refused(good, bad, other, "wrong first "+strconv.Itoa(i))
		refused(good, other, bad, "wrong second "+strconv.Itoa(i))
	}
	for _, name := range []string{"b", "aa", "zzzzzz"} {
		named := copyFeat(good)
		named.Id = name
		refused(named, good, good, "a base of another name")
		refused(good, named, good, "a first one of another name")
		refused(good, good, named, "a second one of another name")
		refused(named, good, other, "a base of another name, and both turned")
		refused(good, named, named, "two of another name")
	}
	refused(good, featOf("b", good.Shape), featOf("c", good.Shape), "three names")
	refused(impl.Feat{}, good, good, "nothing at all, and both came alike")
	refused(impl.Feat{}, good, other, "nothing at all, and both came otherwise")
	refused(good, impl.Feat{}, good, "the first is nothing at all")
	refused(good, good, impl.Feat{}, "the second is nothing at all")
	refused(impl.Feat{}, impl.Feat{}, impl.Feat{}, "all three are nothing at all")
	if f, clashes := impl.FeatJoin(good, other, good); !equalFeats(f, other) || len(clashes) != 0 {
		t.Errorf("what is ok is refused: %v %q", f, clashes)
	}
}

// sheetCase is the texts of three maps, of what comes, and of what clashes.
type sheetCase struct{ what, base, a, b, want, clashes string }

func holdSheetCases(t *testing.T, cases []sheetCase, sameEitherWay bool) {
	t.Helper()
	asked := func(c sheetCase) {
		t.Helper()
		s, clashes, ok := impl.SheetJoin(readSheet(t, c.base), readSheet(t, c.a), readSheet(t, c.b))
		if !ok || impl.SheetText(s) != c.want || impl.ClashText(clashes) != c.clashes {
			t.Errorf("%s: %q %q %v, not %q %q", c.what, impl.SheetText(s), impl.ClashText(clashes), ok, c.want, c.clashes)
		}
	}
	for _, c := range cases {
		asked(c)
		if sameEitherWay {
			asked(sheetCase{c.what + ", the other hand first", c.base, c.b, c.a, c.want, c.clashes})
		}
	}
}

func TestSheetJoinLiterals(t *testing.T) {
	holdSheetCases(t, []sheetCase{
		{"nothing", "", "", "", "", ""},
		{"nothing turned", "a dot 0,0\n", "a dot 0,0\n", "a dot 0,0\n", "a dot 0,0\n", ""},
		{"one adds", "", "a dot 0,0\n", "", "a dot 0,0\n", ""},
		{"one drops, and the other leaves", "a dot 0,0\n", "", "a dot 0,0\n", "", ""},
		{"one turns", "a dot 0,0\n", "a dot 1,1\n", "a dot 0,0\n", "a dot 1,1\n", ""},
		{"both add alike", "", "a dot 0,0 k=x\n", "a dot 0,0 k=x\n", "a dot 0,0 k=x\n", ""},
		{"both drop", "a dot 0,0\nb dot 1,1\n", "b dot 1,1\n", "b dot 1,1\n", "b dot 1,1\n", ""},
		{"both turn alike", "a dot 0,0\n", "a dot 1,1\n", "a dot 1,1\n", "a dot 1,1\n", ""},
		{"each adds its own", "m dot 0,0\n", "a dot 1,1\nm dot 0,0\n", "m dot 0,0\nz dot 2,2\n", "a dot 1,1\nm dot 0,0\nz dot 2,2\n", ""},
		{"each drops its own", "a dot 0,0\nb dot 1,1\nc dot 2,2\n", "b dot 1,1\nc dot 2,2\n", "a dot 0,0\nb dot 1,1\n", "b dot 1,1\n", ""},
		{"each turns its own", "a dot 0,0\nb dot 1,1\n", "a dot 0,5\nb dot 1,1\n", "a dot 0,0\nb dot 1,5\n", "a dot 0,5\nb dot 1,5\n", ""},
		{"one drops, the other adds", "a dot 0,0\n", "", "a dot 0,0\nb dot 1,1\n", "b dot 1,1\n", ""},
		{"each another part of one thing", "a line 0,0 1,1 k=x\n", "a line 0,0 1,1 2,2 k=x\n", "a line 0,0 1,1 k=y\n", "a line 0,0 1,1 2,2 k=y\n", ""},
		{"one drops, and the other turns", "a dot 0,0\n", "", "a dot 1,1\n", "a dot 1,1\n", "a: gone\n"},
		{"one drops, and the other turns a tag", "a dot 0,0 k=x\nb dot 1,1\n", "b dot 1,1\n", "a dot 0,0\nb dot 1,1\n", "a dot 0,0\nb dot 1,1\n", "a: gone\n"},
		{"two are gone", "a dot 0,0\nb dot 1,1\n", "a dot 5,5\n", "b dot 6,6\n", "a dot 5,5\nb dot 6,6\n", "a: gone\nb: gone\n"},
		{"a name is another one", "a dot 0,0\n", "b dot 0,0\n", "c dot 0,0\n", "b dot 0,0\nc dot 0,0\n", ""},
	}, true)
	holdSheetCases(t, []sheetCase{
		{"both add otherwise", "", "a dot 0,0\n", "a dot 1,1\n", "a dot 0,0\n", "a: both\n"},
		{"both add otherwise, turned round", "", "a dot 1,1\n", "a dot 0,0\n", "a dot 1,1\n", "a: both\n"},
		// Nothing of it is joined, though it could be.
		{"both add of one shape", "b dot 0,0\n", "a dot 0,0 k=x\nb dot 0,0\n", "a dot 0,0 m=x\nb dot 0,0\n", "a dot 0,0 k=x\nb dot 0,0\n", "a: both\n"},
		{"a shape clashes", "a dot 0,0\n", "a dot 1,1\n", "a dot 2,2\n", "a dot 1,1\n", "a: shape\n"},
		{"a tag clashes", "a dot 0,0 k=x\n", "a dot 0,0 k=y\n", "a dot 0,0 k=z\n", "a dot 0,0 k=y\n", "a: tag k\n"},
		{"a tag that one drops", "a dot 0,0 k=x\n", "a dot 0,0\n", "a dot 0,0 k=z\n", "a dot 0,0 k=z\n", "a: tag k\n"},
		{"too many tags", "a dot 0,0\n", "a dot 0,0 a=x b=x c=x\n", "a dot 0,0 d=x e=x\n", "a dot 0,0 a=x b=x c=x\n", "a: much\n"},
		{"too many tags, and a shape", "a dot 0,0\n", "a dot 1,1 a=x b=x c=x\n", "a dot 2,2 d=x e=x\n", "a dot 1,1 a=x b=x c=x\n", "a: much\n"},
		{"several of one thing", "a dot 0,0 k=x m=x\n", "a dot 1,1 k=y m=y\n", "a dot 2,2 k=z m=z\n", "a dot 1,1 k=y m=y\n", "a: shape\na: tag k\na: tag m\n"},
		{"of each kind, by names",
			"a dot 0,0\naa dot 0,0 k=x m=x\nb dot 0,0\nd dot 0,0\ne dot 0,0\n",
			"a dot 1,1\naa dot 0,0 k=y m=y\nc dot 1,1\nd dot 0,0 a=x b=x c=x d=x\ne dot 0,0\n",
			"a dot 2,2\naa dot 0,0 k=z\nb dot 2,2\nc dot 2,2\nd dot 0,0 e=x\ne dot 2,2\n",
			"a dot 1,1\naa dot 0,0 k=y m=y\nb dot 2,2\nc dot 1,1\nd dot 0,0 a=x b=x c=x d=x\ne dot 2,2\n",
			"a: shape\naa: tag k\naa: tag m\nb: gone\nc: both\nd: much\n"},
	}, false)
}

// joinSheets are all maps of these names with, of each, no thing or one of some that clash in many ways.
func joinSheets(t *testing.T, shapes []string, names ...string) [][]impl.Feat {
	list := [][]impl.Feat{nil}
	for _, name := range names {
		var longer [][]impl.Feat
		for _, s := range list {
			longer = append(longer, s)
			for _, text := range shapes {
				longer = append(longer, append(copySheet(s), readFeat(t, name+" "+text)))
			}
		}
		list = longer
	}
	return list
}

func TestSheetJoinOfAllSmallMaps(t *testing.T) {
	five := []string{"line 0,0 1,1 k=x", "line 5,5 0,0 1,1 k=y", "line 0,0 1,1 6,6 a=x b=x k=z", "dot 0,0", "line 0,0 1,1 c=x d=x e=x"}
	for _, sheets := range [][][]impl.Feat{
		joinSheets(t, five, "oak"), joinSheets(t, five[:3], "a", "zz"), joinSheets(t, five[:1], "a", "ab", "b"),
	} {
		for _, was := range sheets {
			for _, a := range sheets {
				for _, b := range sheets {
					holdSheetJoin(t, was, a, b)
				}
			}
		}
	}
}

func TestSheetJoinOfGreatMaps(t *testing.T) {
	sheets := someSheets()
	joined, refused := 0, 0
	for i := range 6000 {
		was, a, b := sheets[i%len(sheets)], sheets[(i*5+i/7)%len(sheets)], sheets[(i*11+i/13)%len(sheets)]
		if holdSheetJoin(t, was, a, b) {
			joined++
		} else {
			refused++
		}
	}
	if joined < 500 || refused < 500 {
		t.Errorf("the maps are to tell both ways: %d and %d", joined, refused)
	}
}

// Promise 6: what one hand alone turned of a map is all that is turned, and what both turned alike is turned once.
func TestSheetJoinOfOneHandAlone(t *testing.T) {
	sheets := someSheets()
	for _, base := range sheets {
		for _, a := range sheets {
			for _, c := range [][3][]impl.Feat{{base, a, base}, {base, base, a}, {base, a, a}} {
				if s, clashes, ok := impl.SheetJoin(c[0], c[1], c[2]); !ok || !equalSheets(s, a) || len(clashes) != 0 {
					t.Fatalf("%v %v %v: %v %v %v", c[0], c[1], c[2], s, clashes, ok)
				}
			}
		}
	}
}

// Promise 6: what each hand turned at its own names is all in what comes, whichever hand is the first.
func TestSheetJoinOfDifferentNames(t *testing.T) {
	sheets := smallSheets("a", "ab", "b", "z")
	for i, base := range sheets {
		for n := range 80 {
			one, other := sheets[(i+n)%len(sheets)], sheets[(i*3+n*7)%len(sheets)]
			var a, b, both []impl.Feat
			for k, name := range []string{"a", "ab", "b", "z"} {
				was, had := thingAt(base, name)
				of := [][]impl.Feat{one, other}[(k+n)%2]
				now, has := thingAt(of, name)
				if has {
					both = append(both, now)
				}
				for hand, s := range []*[]impl.Feat{&a, &b} {
					if hand == (k+n)%2 && has {
						*s = append(*s, now)
					} else if hand != (k+n)%2 && had {
						*s = append(*s, was)
					}
				}
			}
			for _, hands := range [][2][]impl.Feat{{a, b}, {b, a}} {
				if s, clashes, ok := impl.SheetJoin(base, hands[0], hands[1]); !ok || !equalSheets(s, both) || len(clashes) != 0 {
					t.Fatalf("%v %v %v: %v %v %v", base, hands[0], hands[1], s, clashes, ok)
				}
			}
		}
	}
}

// holdEightAtMost asks both ways; want is nil, where there would be more than eight things.
func holdEightAtMost(t *testing.T, what string, base []impl.Feat, a []impl.Feat, b []impl.Feat, want []impl.Feat) {
	t.Helper()
	for _, hands := range [][2][]impl.Feat{{a, b}, {b, a}} {
		s, clashes, ok := impl.SheetJoin(base, hands[0], hands[1])
		if ok != (want != nil) || !equalSheets(s, want) || len(clashes) != 0 {
			t.Errorf("%s: %v %v %v", what, s, clashes, ok)
		}
	}
}

func TestSheetJoinMeetsSheetMostExactly(t *testing.T) {
	all := sheetOf(manyNames(24)...)
	eight := all[:8]
	for n := range 9 {
		holdEightAtMost(t, "eight by two", nil, all[:n], all[n:8], eight)
		holdEightAtMost(t, "eight, and some of them by the other hand too", nil, eight, all[n:8], eight)
		if n > 0 {
			holdEightAtMost(t, "nine by two", nil, all[:n], all[n:9], nil)
			holdEightAtMost(t, "eight, and more by the other hand", nil, eight, all[8:8+n], nil)
			holdEightAtMost(t, "eight that are left, and more by one hand", all[8-n:8], eight, all[8-n:9], nil)
		}
	}
	holdEightAtMost(t, "one of eight goes by each hand, and two come", eight,
		slices.Concat(all[1:8], all[8:9]), slices.Concat(all[:7], all[9:10]), slices.Concat(all[1:7], all[8:10]))
	holdEightAtMost(t, "sixteen names, of which eight go", eight,
		slices.Concat(all[4:8], all[8:12]), slices.Concat(all[:4], all[12:16]), all[8:16])
	holdEightAtMost(t, "fifteen names, of which seven go", eight,
		slices.Concat(all[4:8], all[8:12]), slices.Concat(all[:5], all[12:15]), slices.Concat(all[4:5], all[8:15]))
	holdEightAtMost(t, "eight of seventeen names go", eight,
		slices.Concat(all[4:8], all[8:12]), slices.Concat(all[:3], all[12:17]), nil)
	holdEightAtMost(t, "24 names, of which eight go", eight, all[8:16], all[16:24], nil)
	holdEightAtMost(t, "24 names, of which eight go, and the hands add four alike", eight, all[8:14], all[10:16], all[8:16])
	// What one dropped and the other turned is there, and is one too many, too.
	other := slices.Concat([]impl.Feat{thingOf(all[0].Id, 7)}, all[1:8])
	holdEightAtMost(t, "a ninth that is gone", eight, all[1:9], other, nil)
	holdEightAtMost(t, "nine, and one that both add otherwise", all[1:5], eight, slices.Concat(other[:7], all[8:9]), nil)
}

func TestSheetJoinNotOkTellsNothing(t *testing.T) {
	refused := func(base []impl.Feat, a []impl.Feat, b []impl.Feat, what string, i int) {
		t.Helper()
		if s, clashes, ok := impl.SheetJoin(base, a, b); ok || len(s) != 0 || len(clashes) != 0 {
			t.Errorf("%s %d: %v %v %v", what, i, s, clashes, ok)
		}
	}
	good, other := sheetOf("a", "b"), []impl.Feat{thingOf("a", 3), thingOf("c", 4)}
	for i, bad := range wrongSheets() {
		for _, s := range [][]impl.Feat{nil, good, bad} {
			refused(bad, s, s, "wrong base", i)
			refused(s, bad, s, "wrong first", i)
			refused(s, s, bad, "wrong second", i)
		}
		refused(bad, good, other, "wrong base, both turned", i)
		refused(good, bad, other, "wrong first, both turned", i)
		refused(good, other, bad, "wrong second, both turned", i)
		refused(good, bad, bad, "wrong first and second", i)
	}
	// Nine things of which one would go, and a wrong thing that both would drop.
	nine := sheetOf(nineNames()...)
	refused(nine, nine[1:], nine[1:], "a base of nine", 0)
	refused(nine[1:], nine, nine[2:], "a first of nine", 0)
	refused([]impl.Feat{featOf("a", shapeOf(impl.ShapeDot))}, nil, nil, "a wrong thing that both drop", 0)
}

func TestSheetJoinOfEmptyLists(t *testing.T) {
	for _, none := range [][]impl.Feat{nil, {}} {
		for _, s := range [][]impl.Feat{nil, {}, sheetOf("a", "b")} {
			for _, c := range [][3][]impl.Feat{{none, s, none}, {none, none, s}, {none, s, s}} {
				if x, clashes, ok := impl.SheetJoin(c[0], c[1], c[2]); !ok || !equalSheets(x, s) || len(clashes) != 0 {
					t.Errorf("%v %v %v: %v %v %v", c[0], c[1], c[2], x, clashes, ok)
				}
			}
			if x, clashes, ok := impl.SheetJoin(s, none, s); !ok || len(x) != 0 || len(clashes) != 0 {
				t.Errorf("all of %v is dropped: %v %v %v", s, x, clashes, ok)
			}
		}
	}
	f := featOf("a", shapeOf(impl.ShapeDot, pt(0, 0)))
	empty := copyFeat(f)
	empty.Tags = []impl.Tag{}
	if x, clashes := impl.FeatJoin(f, empty, featOf("a", f.Shape, tag("k", "x"))); impl.FeatText(x) != "a dot 0,0 k=x" || len(clashes) != 0 {
		t.Errorf("an empty list of tags is not none: %v %q", x, clashes)
	}
}

// clashLists are lists of clashes with any bytes in them, no two the same.
func clashLists() [][]impl.Clash {
	return [][]impl.Clash{
		nil,
		{{}},
		{{}, {}},
		{{Id: "a", What: "gone"}},
		{{Id: "a", What: "Gone"}},
		{{Id: "gone", What: "a"}},
		{{Id: "a"}},
		{{What: "a"}},
		{{Id: "a", What: "gone"}, {Id: "b", What: "both"}},
		{{Id: "b", What: "both"}, {Id: "a", What: "gone"}},
		{{Id: "a", What: "both"}, {Id: "b", What: "gone"}},
		{{Id: "a", What: "gone"}, {Id: "a", What: "gone"}},
		{{Id: "a", What: "shape"}, {Id: "a", What: "tag k"}, {Id: "ab", What: "much"}},
		{{Id: "a", What: "tag k"}, {Id: "a", What: "shape"}, {Id: "ab", What: "much"}},
		{{Id: "a: gone\nb", What: "both"}},
		{{Id: "a", What: "gone\nb: both"}},
		{{Id: "\x00\xff", What: "\xfe\n"}},
		{{Id: "\x00\xff", What: "\xfe"}, {}},
		{{Id: "\u00e9", What: "e\u0301"}},
		{{Id: "e\u0301", What: "\u00e9"}},
		slices.Repeat([]impl.Clash{{Id: strings.Repeat("a", 50), What: " "}}, 3000),
	}
}

func TestClashText(t *testing.T) {
	cases := []struct {
		c    []impl.Clash
		want string
	}{
		{nil, ""},
		{[]impl.Clash{}, ""},
		{[]impl.Clash{{}}, ": \n"},
		{[]impl.Clash{{Id: "a", What: "gone"}}, "a: gone\n"},
		{[]impl.Clash{{Id: "b", What: "tag k"}, {Id: "a", What: "shape"}, {Id: "a", What: "shape"}}, "b: tag k\na: shape\na: shape\n"},
		{[]impl.Clash{{Id: "\xff\n", What: "\x00: "}, {What: "x"}, {Id: "x"}}, "\xff\n: \x00: \n: x\nx: \n"},
	}
	for _, c := range cases {
		if got := impl.ClashText(c.c); got != c.want {
			t.Errorf("%q, not %q", got, c.want)
		}
	}
	for _, c := range clashLists() {
		want := ""
		for _, one := range c {
			want += one.Id + ": " + one.What + "\n"
		}
		if got := impl.ClashText(c); got != want {
			t.Errorf("%q, not %q", got, want)
		}
	}
}

func TestClashSame(t *testing.T) {
	for i, a := range clashLists() {
		for k, b := range clashLists() {
			if impl.ClashSame(a, b) != (i == k) {
				t.Errorf("lists %d and %d: %v", i, k, i != k)
			}
		}
		if len(a) > 0 && (impl.ClashSame(a, a[:len(a)-1]) || impl.ClashSame(a[1:], a) || impl.ClashSame(a, nil)) {
			t.Errorf("list %d is the same without its first, or its last", i)
		}
	}
	if !impl.ClashSame(nil, []impl.Clash{}) || !impl.ClashSame([]impl.Clash{}, nil) {
		t.Error("the empty list and the nil list are told apart")
	}
}

// featTriples are things of one name: that clash, that do not, of which one is turned, and that are not ok.
func featTriples(t *testing.T) [][3]impl.Feat {
	var list [][3]impl.Feat
	for _, c := range [][3]string{
		{"dot 0,0", "dot 0,0", "dot 0,0"},
		{"line 0,0 1,1 k=x", "line 5,5 0,0 1,1 k=x", "line 0,0 1,1 6,6 k=y m=x"},
		{"line 0,0 1,1 k=x", "ring 5,5 0,0 1,1 k=y", "line 0,0 1,1 6,6 m=x"},
		{"line 0,0 1,1", "line 5,5 0,0 1,1 a=x b=x c=x", "line 0,0 1,1 6,6 d=x e=x"},
		{"line 0,0 1,1 k=x", "line 5,5 0,0 1,1 k=y", "line 0,0 1,1 k=x"},
		{"line 0,0 1,1 k=x", "line 0,0 1,1 k=x", "line 0,0 6,6 1,1 k=y"},
		{"line 0,0 1,1 k=x", "line 7,7 1,1 m=x", "line 7,7 1,1 m=x"},
		{"dot 0,0 k=x", "dot 1,1", "dot 2,2"},
	} {
		list = append(list, [3]impl.Feat{readFeat(t, "a "+c[0]), readFeat(t, "a "+c[1]), readFeat(t, "a "+c[2])})
	}
	good := list[1][0]
	for i, bad := range wrongFeats() {
		if i%5 == 0 && len(bad.Tags) < 100 && len(bad.Shape.Pts) < 100 {
			list = append(list, [3]impl.Feat{bad, good, good}, [3]impl.Feat{good, bad, good}, [3]impl.Feat{good, good, bad})
		}
	}
	return list
}

// sheetTriples are maps of which the things are those of featTriples, and others that come and go.
func sheetTriples(t *testing.T) [][3][]impl.Feat {
	var list [][3][]impl.Feat
	for _, c := range featTriples(t) {
		list = append(list, [3][]impl.Feat{{c[0]}, {c[1], thingOf("d", 3)}, {c[2], thingOf("d", 4)}},
			[3][]impl.Feat{{thingOf("A", 1), c[0]}, {c[1]}, {c[2]}},
			[3][]impl.Feat{{c[0], thingOf("b", 1)}, {c[1]}, {c[2], thingOf("b", 2), thingOf("c", 9)}},
			[3][]impl.Feat{nil, {c[1]}, {c[2]}})
	}
	full := sheetOf(nineNames()[:8]...)
	return append(list, [3][]impl.Feat{full, sheetOf(nineNames()[1:]...), full}, [3][]impl.Feat{nil, full, sheetOf("zz")}, [3][]impl.Feat{full, full, nil})
}

// joinAnswer is what one call answers of three maps, or of three things, which are maps of one each.
func joinAnswer(c [3][]impl.Feat, things bool) []impl.Feat {
	if things {
		f, _ := impl.FeatJoin(c[0][0], c[1][0], c[2][0])
		return []impl.Feat{f}
	}
	s, _, _ := impl.SheetJoin(c[0], c[1], c[2])
	return s
}

func holdJoinMemory(t *testing.T, c [3][]impl.Feat, things bool) {
	t.Helper()
	var given, all, was [3][]impl.Feat
	for i := range c {
		given[i], all[i] = roomySheet(c[i])
		was[i] = roomOf(all[i])
	}
	untouched := func() bool {
		return equalSheets(roomOf(all[0]), was[0]) && equalSheets(roomOf(all[1]), was[1]) && equalSheets(roomOf(all[2]), was[2])
	}
	answer := joinAnswer(given, things)
	if !untouched() {
		t.Fatalf("a call has written into %v", c)
	}
	overwriteSheet(answer)
	if !untouched() {
		t.Fatalf("what comes of %v shares memory with it", c)
	}
	answer = joinAnswer(given, things)
	kept := copySheet(answer)
	for _, s := range all {
		overwriteSheet(s)
	}
	if !equalSheets(answer, kept) {
		t.Fatalf("what comes of %v shares memory with it", c)
	}
}

func TestJoinLeavesArgumentsAlone(t *testing.T) {
	for _, c := range featTriples(t) {
		holdJoinMemory(t, [3][]impl.Feat{{c[0]}, {c[1]}, {c[2]}}, true)
	}
	for _, c := range sheetTriples(t) {
		holdJoinMemory(t, c, false)
	}
	for _, c := range clashLists() {
		all := append(slices.Clone(c), impl.Clash{Id: "behind", What: "it"}, impl.Clash{Id: "far", What: "behind"})
		before := slices.Clone(all)
		impl.ClashText(all[:len(c)])
		impl.ClashSame(all[:len(c)], all[:len(c)])
		impl.ClashSame(all[:len(c)], all)
		if !slices.Equal(all, before) {
			t.Fatalf("a call has written into %v", c)
		}
	}
}

// The three may lie in one piece of memory, or be one; what is answered may not.
func TestJoinOfOneThingThrice(t *testing.T) {
	for _, c := range featTriples(t) {
		f, _, _ := roomyFeat(c[0])
		kept := copyFeat(f)
		joined, _ := impl.FeatJoin(f, f, f)
		overwrite(joined.Shape)
		overwriteTags(joined)
		if !equalFeats(f, kept) {
			t.Fatalf("what comes of %v thrice shares memory with it", kept)
		}
	}
	s := sharedThings()
	before := copySheet(s)
	overwriteSheet(joinAnswer([3][]impl.Feat{s[:3], s[:4], s[:5]}, false))
	if !equalSheets(s, before) {
		t.Error("what comes of maps in one piece of memory shares it")
	}
}

func TestJoinListsOfAnAnswerAreEachItsOwn(t *testing.T) {
	ownLists(t, "all by one hand", func() []impl.Feat {
		return joinAnswer([3][]impl.Feat{nil, sharedThings(), nil}, false)
	})
	ownLists(t, "by both hands", func() []impl.Feat {
		s := sharedThings()
		return joinAnswer([3][]impl.Feat{s[1:3], s[:4], s[1:]}, false)
	})
	ownLists(t, "with clashes", func() []impl.Feat {
		s := sharedThings()
		a, b := slices.Clone(s[:4]), slices.Clone(s[1:])
		a[1].Shape, b[0].Shape = s[0].Shape, s[2].Shape
		a[2].Tags, b[1].Tags = s[0].Tags[:3], s[0].Tags[1:]
		return joinAnswer([3][]impl.Feat{s[:3], a, b}, false)
	})
}

func TestJoinAnswersAreNewEachTime(t *testing.T) {
	base, a, b := readSheet(t, "a dot 0,0 k=x\nb dot 0,0\n"), readSheet(t, "a dot 1,1 k=y\nc dot 1,1\n"), readSheet(t, "a dot 2,2 k=z\nb dot 2,2\nc dot 2,2\n")
	for range 5 {
		s, clashes, ok := impl.SheetJoin(base, a, b)
		if !ok || impl.SheetText(s) != "a dot 1,1 k=y\nb dot 2,2\nc dot 1,1\n" || impl.ClashText(clashes) != "a: shape\na: tag k\nb: gone\nc: both\n" {
			t.Fatalf("%q %q %v", impl.SheetText(s), impl.ClashText(clashes), ok)
		}
		overwriteSheet(s)
		for i := range clashes[:cap(clashes)] {
			clashes[:cap(clashes)][i] = impl.Clash{Id: "over", What: "over"}
		}
		f, what := impl.FeatJoin(base[0], a[0], b[0])
		if impl.FeatText(f) != "a dot 1,1 k=y" || !slices.Equal(what, []string{"shape", "tag k"}) {
			t.Fatalf("%v %q", f, what)
		}
		overwrite(f.Shape)
		overwriteTags(f)
		for i := range what[:cap(what)] {
			what[:cap(what)][i] = "over"
		}
	}
}

package impl

import "testing"

// No board is known that has as many lists of fewest throws as CountFewest may
// return at most, so its bound is tested on lists that are there already.

func TestCountOfListsHasItsBound(t *testing.T) {
	for _, c := range []struct {
		faces  int
		before int
		throws int
		want   int
		ok     bool
	}{
		{1, mostLists - 1, 1, mostLists - 1, true},
		{1, mostLists, 1, mostLists, true},
		{1, mostLists + 1, 1, 0, false},
		{2, mostLists / 2, 1, mostLists, true},
		{2, mostLists/2 + 1, 1, 0, false},
		{8, mostLists / 8, 1, mostLists, true},
		{8, mostLists, 1, 0, false},
		{1, mostLists, 0, 0, true},
	} {
		b, ok := PlainBoard(1, c.faces, overEnds)
		if !ok {
			t.Fatal("no board", c)
		}
		course, _ := courseOf(b)
		got, ok := course.listsToEnd(perSquare{c.before}, c.throws)
		if got != c.want || ok != c.ok {
			t.Error(c, "gives", got, ok)
		}
	}
}

func TestCountOfListsDoesNotOverflow(t *testing.T) {
	// A course whose squares all lead back to the start, as no board has it: each throw makes 8 lists of one.
	course := course{squares: MaxSquares, faces: MaxFaces, over: overStays}
	lists := perSquare{1}
	for throw := 1; throw <= MaxThrows; throw++ {
		lists = course.onward(lists)
		want := mostLists + 1
		if throw <= 16 {
			want = 1 << (3 * throw)
		}
		if lists[0] != want {
			t.Fatal("behind throw", throw, lists[0])
		}
	}
	if n, ok := course.listsToEnd(perSquare{0: 1, MaxSquares: mostLists + 1}, 0); ok || n != 0 {
		t.Error("beyond the bound at once", n, ok)
	}
}

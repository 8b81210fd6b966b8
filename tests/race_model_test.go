package tests

import (
	"math/rand"
	"regexp"
	"slices"
	"strconv"
	"testing"

	"loop.example/g01306/impl"
)

// The model of chapter 4: all lists of throws are tried one by one where they
// are few, and are counted backwards from the last throw where they are many;
// the fewest throws to a win are found from the wins back.

// modelIsRace reports whether r is a race.
func modelIsRace(r impl.Race) bool {
	ends := 0
	for _, square := range []int{r.First, r.Other} {
		if !modelHolds(r.Board, square) {
			return false
		}
		if square == r.Board.Squares {
			ends++
		}
	}
	return modelIsBoard(r.Board) && r.Board.Squares <= 40 && (r.Meet == 0 || r.Meet == 1) && ends < 2
}

// modelWon returns who has won.
func modelWon(r impl.Race) int {
	switch r.Board.Squares {
	case r.First:
		return 1
	case r.Other:
		return 2
	}
	return 0
}

// modelRaceThrow returns the race behind a throw, before which there were so
// many others, and who is sent back by it, 0 for nobody.
func modelRaceThrow(r impl.Race, before int, face int) (impl.Race, int) {
	if modelWon(r) != 0 {
		return r, 0
	}
	thrown, resting, rests := &r.First, &r.Other, 2
	if before%2 == 1 {
		thrown, resting, rests = &r.Other, &r.First, 1
	}
	was := *thrown
	*thrown = modelLanding(r.Board, was, face)
	inside := *thrown > 0 && *thrown < r.Board.Squares
	if r.Meet == 0 || !inside || *thrown == was || *thrown != *resting {
		return r, 0
	}
	*resting = 0
	return r, rests
}

// modelHeat is what one list of throws does with a race.
type modelHeat struct {
	throws []int
	race   impl.Race
	sent   [3]int
	wonAt  int
}

// modelHeats returns the heats of all lists of so many throws, in lexicographic
// order.
func modelHeats(r impl.Race, throws int) []modelHeat {
	if throws == 0 {
		return []modelHeat{{race: r}}
	}
	var heats []modelHeat
	for _, heat := range modelHeats(r, throws-1) {
		for face := 1; face <= r.Board.Faces; face++ {
			longer := heat
			longer.throws = append(slices.Clone(heat.throws), face)
			race, sent := modelRaceThrow(heat.race, throws-1, face)
			if sent != 0 {
				longer.sent[sent]++
			}
			if modelWon(race) != 0 && modelWon(heat.race) == 0 {
				longer.wonAt = throws
			}
			longer.race = race
			heats = append(heats, longer)
		}
	}
	return heats
}

// modelStand is where both tokens are, and by how many throws, modulo 2, they
// came there: 0 once somebody has won.
type modelStand struct {
	first int
	other int
	turn  int
}

func modelStandOf(r impl.Race, turn int) modelStand {
	if modelWon(r) != 0 {
		turn = 0
	}
	return modelStand{r.First, r.Other, turn}
}

// modelNext returns the stand behind each face.
func modelNext(r impl.Race, at modelStand) []modelStand {
	r.First, r.Other = at.first, at.other
	var next []modelStand
	for face := 1; face <= r.Board.Faces; face++ {
		race, _ := modelRaceThrow(r, at.turn, face)
		next = append(next, modelStandOf(race, 1-at.turn))
	}
	return next
}

// modelStands returns the stands behind each face of all stands that are
// reached.
func modelStands(r impl.Race) map[modelStand][]modelStand {
	begin := modelStandOf(r, 0)
	next := map[modelStand][]modelStand{}
	for todo := []modelStand{begin}; len(todo) > 0; todo = todo[1:] {
		if next[todo[0]] == nil {
			next[todo[0]] = modelNext(r, todo[0])
			todo = append(todo, next[todo[0]]...)
		}
	}
	return next
}

// modelFirstWin returns the first list of the fewest throws by which who wins,
// and whether there is one: it goes on, face by face, to stands from which the
// win is nearer.
func modelFirstWin(r impl.Race, who int) ([]int, bool) {
	stands := modelStands(r)
	end := r.Board.Squares
	away := map[modelStand]int{}
	for at := range stands {
		if who == 1 && at.first == end || who == 2 && at.other == end {
			away[at] = 0
		}
	}
	for changed := true; changed; {
		changed = false
		for at, next := range stands {
			for _, to := range next {
				n, ok := away[to]
				if old, known := away[at]; ok && (!known || n+1 < old) {
					away[at] = n + 1
					changed = true
				}
			}
		}
	}
	at := modelStandOf(r, 0)
	if _, ok := away[at]; !ok {
		return nil, false
	}
	var throws []int
	for away[at] > 0 {
		face := slices.IndexFunc(stands[at], func(to modelStand) bool {
			n, ok := away[to]
			return ok && n == away[at]-1
		})
		throws = append(throws, face+1)
		at = stands[at][face]
	}
	return throws, true
}

// modelRaceLists returns how many of all lists of so many throws lead to a race
// of a kind, counted backwards from it.
func modelRaceLists(r impl.Race, throws int, kind func(r impl.Race) bool) int {
	type task struct {
		first, other, before int
	}
	known := map[task]int{}
	var lists func(r impl.Race, before int) int
	lists = func(r impl.Race, before int) int {
		if before == throws {
			if kind(r) {
				return 1
			}
			return 0
		}
		if n, ok := known[task{r.First, r.Other, before}]; ok {
			return n
		}
		n := 0
		for face := 1; face <= r.Board.Faces; face++ {
			next, _ := modelRaceThrow(r, before, face)
			n += lists(next, before+1)
		}
		known[task{r.First, r.Other, before}] = n
		return n
	}
	return lists(r, 0)
}

// modelWinsAfter returns how many of all lists of so many throws nobody, First
// and Other has won by.
func modelWinsAfter(r impl.Race, throws int) []int {
	var wins []int
	for who := range 3 {
		wins = append(wins, modelRaceLists(r, throws, func(r impl.Race) bool { return modelWon(r) == who }))
	}
	return wins
}

// modelAheadAfter returns how many of all lists of so many throws lead First
// ahead, both to one square, and Other ahead.
func modelAheadAfter(r impl.Race, throws int) []int {
	return []int{
		modelRaceLists(r, throws, func(r impl.Race) bool { return r.First > r.Other }),
		modelRaceLists(r, throws, func(r impl.Race) bool { return r.First == r.Other }),
		modelRaceLists(r, throws, func(r impl.Race) bool { return r.First < r.Other }),
	}
}

var racePattern = regexp.MustCompile(`\A([^@]*)@([01]):(0|[1-9][0-9]?):(0|[1-9][0-9]?)\z`)

// modelParseRace takes a text apart by a pattern.
func modelParseRace(s string) (impl.Race, bool) {
	m := racePattern.FindStringSubmatch(s)
	if m == nil {
		return impl.Race{}, false
	}
	b, ok := modelParse(m[1])
	if !ok {
		return impl.Race{}, false
	}
	r := impl.Race{Board: b}
	for i, number := range []*int{&r.Meet, &r.First, &r.Other} {
		*number, _ = strconv.Atoi(m[i+2])
	}
	if !modelIsRace(r) {
		return impl.Race{}, false
	}
	return r, true
}

// racesOn returns all races on a board.
func racesOn(b impl.Board) []impl.Race {
	var races []impl.Race
	for meet := range 2 {
		for x := range b.Squares + 1 {
			for y := range b.Squares + 1 {
				r := impl.Race{Board: b, Meet: meet, First: x, Other: y}
				if modelIsRace(r) {
					races = append(races, r)
				}
			}
		}
	}
	return races
}

// largeRaces returns races on boards of up to so many squares with up to 20
// jumps, always the same ones.
func largeRaces(count int, most int, seed int64) []impl.Race {
	rng := rand.New(rand.NewSource(seed))
	races := make([]impl.Race, 0, count)
	for len(races) < count {
		b := impl.Board{Squares: most - rng.Intn(most)*rng.Intn(2), Faces: 1 + rng.Intn(8), Over: rng.Intn(3)}
		b = jumpsPutIn(rng, b, rng.Intn(40))
		x := rng.Intn(b.Squares + 1)
		r := impl.Race{Board: b, Meet: rng.Intn(4) / 3, First: x, Other: (x + rng.Intn(4)) % (b.Squares + 1)}
		r.Meet = 1 - r.Meet
		if modelIsRace(r) {
			races = append(races, r)
		}
	}
	return races
}

// race returns the race with a text that the test relies on.
func race(t *testing.T, s string) impl.Race {
	t.Helper()
	r, ok := impl.ParseRace(s)
	if !ok {
		t.Fatalf("%s is no race", s)
	}
	return r
}

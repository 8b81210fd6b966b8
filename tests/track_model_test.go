package tests

import (
	"math/rand"
	"regexp"
	"slices"
	"strconv"
	"strings"
	"testing"

	"loop.example/g01306/impl"
)

// The model of chapter 7: tokens walk square by square over the list of squares
// that their player goes around, and all pairs of tokens are looked at.

// modelIsTrack reports whether k is a track.
func modelIsTrack(k impl.Track) bool {
	if k.Squares < 4 || k.Squares > 60 || k.Faces < 1 || k.Faces > 8 || k.Tokens < 1 || k.Tokens > 4 {
		return false
	}
	if len(k.Starts) < 2 || len(k.Starts) > 4 {
		return false
	}
	for i, square := range k.Starts {
		if square < 0 || square > k.Squares-1 || slices.Index(k.Starts, square) != i {
			return false
		}
	}
	for i, square := range k.Safe {
		if square < 0 || square > k.Squares-1 || i > 0 && k.Safe[i-1] >= square {
			return false
		}
	}
	return true
}

// modelRound returns the squares that a player goes around, from the start on.
func modelRound(k impl.Track, player int) []int {
	var round []int
	for square := k.Starts[player]; len(round) < k.Squares; square++ {
		if square == k.Squares {
			square = 0
		}
		round = append(round, square)
	}
	return round
}

// modelSquare returns the square of a token of a player with so many steps: -1
// if it is on none.
func modelSquare(k impl.Track, player int, steps int) int {
	if steps == -1 || steps == k.Squares {
		return -1
	}
	return modelRound(k, player)[steps]
}

// modelPawns returns all tokens, each as player and token.
func modelPawns(k impl.Track) [][]int {
	var pawns [][]int
	for player := range k.Starts {
		for token := range k.Tokens {
			pawns = append(pawns, []int{player, token})
		}
	}
	return pawns
}

// modelIsState reports whether a list of any lists is a state of a track.
func modelIsState(k impl.Track, s [][]int) bool {
	if len(s) != len(k.Starts) {
		return false
	}
	for _, tokens := range s {
		if len(tokens) != k.Tokens || slices.Min(tokens) < -1 || slices.Max(tokens) > k.Squares {
			return false
		}
	}
	for _, p := range modelPawns(k) {
		for _, q := range modelPawns(k) {
			if p[0] != q[0] && modelClash(k, s, p, q) {
				return false
			}
		}
	}
	return true
}

// modelClash reports whether two tokens are on one square that is not safe.
func modelClash(k impl.Track, s [][]int, p []int, q []int) bool {
	square := modelSquare(k, p[0], s[p[0]][p[1]])
	return square >= 0 && square == modelSquare(k, q[0], s[q[0]][q[1]]) && !slices.Contains(k.Safe, square)
}

// modelTokensAt returns the tokens on a square.
func modelTokensAt(k impl.Track, s [][]int, square int) [][]int {
	return slices.DeleteFunc(modelPawns(k), func(p []int) bool {
		return modelSquare(k, p[0], s[p[0]][p[1]]) != square
	})
}

// cloneState returns a state that shares no memory.
func cloneState(s [][]int) [][]int {
	var clone [][]int
	for _, tokens := range s {
		clone = append(clone, slices.Clone(tokens))
	}
	return clone
}

// modelSteps walks a face step by step: the steps behind it, and whether the
// token can go.
func modelSteps(k impl.Track, steps int, face int) (int, bool) {
	if steps == -1 {
		return 0, face == k.Faces
	}
	for range face {
		if steps == k.Squares {
			return 0, false
		}
		steps++
	}
	return steps, true
}

// modelGo returns the state behind a move, and how many tokens are sent home:
// -1 if the token cannot go.
func modelGo(k impl.Track, s [][]int, m []int) ([][]int, int) {
	steps, can := modelSteps(k, s[m[0]][m[1]], m[2])
	if !can {
		return nil, -1
	}
	next := cloneState(s)
	next[m[0]][m[1]] = steps
	var sent [][]int
	for _, p := range modelPawns(k) {
		if p[0] != m[0] && modelClash(k, next, m, p) {
			sent = append(sent, p)
		}
	}
	for _, p := range sent {
		next[p[0]][p[1]] = -1
	}
	return next, len(sent)
}

// modelOuting returns the state behind the moves before the first one that cannot
// be made, how many tokens they send home, and how many they are.
func modelOuting(k impl.Track, moves [][]int) ([][]int, int, int) {
	s := slices.Repeat([][]int{slices.Repeat([]int{-1}, k.Tokens)}, len(k.Starts))
	homes := 0
	for i, m := range moves {
		if len(m) != 3 || m[0] < 0 || m[0] >= len(k.Starts) || m[1] < 0 || m[1] >= k.Tokens || m[2] < 1 || m[2] > k.Faces {
			return s, homes, i
		}
		next, sent := modelGo(k, s, m)
		if sent < 0 {
			return s, homes, i
		}
		s = next
		homes += sent
	}
	return s, homes, len(moves)
}

// modelThreats returns the tokens of a player that lie so far before a token of
// another one as a face goes.
func modelThreats(k impl.Track, s [][]int, player int) []int {
	var threatened []int
	for token, steps := range s[player] {
		square := modelSquare(k, player, steps)
		if square < 0 || slices.Contains(k.Safe, square) {
			continue
		}
		if slices.ContainsFunc(modelPawns(k), func(p []int) bool {
			there, from := slices.Index(modelRound(k, p[0]), square), s[p[0]][p[1]]
			away := there - from
			return p[0] != player && (from == -1 && there == 0 || from >= 0 && away >= 1 && away <= k.Faces)
		}) {
			threatened = append(threatened, token)
		}
	}
	return threatened
}

// modelToGo returns the tokens of a player that can go by a face.
func modelToGo(k impl.Track, s [][]int, player int, face int) []int {
	var tokens []int
	for token, steps := range s[player] {
		if _, can := modelSteps(k, steps, face); can {
			tokens = append(tokens, token)
		}
	}
	return tokens
}

// modelBest orders all tokens that can go: the best one, or -1.
func modelBest(k impl.Track, s [][]int, player int, face int) int {
	tokens := modelToGo(k, s, player, face)
	sends := func(token int) int {
		_, sent := modelGo(k, s, []int{player, token, face})
		return sent
	}
	slices.SortStableFunc(tokens, func(a int, b int) int {
		if sends(a) != sends(b) {
			return sends(b) - sends(a)
		}
		return s[player][b] - s[player][a]
	})
	return append(tokens, -1)[0]
}

// modelFewestMoves makes for each token the set of steps behind 0, 1, .. moves
// until it can be done.
func modelFewestMoves(k impl.Track, tokens []int) int {
	moves := 0
	for _, steps := range tokens {
		at := []int{steps}
		for !slices.Contains(at, k.Squares) {
			moves++
			var next []int
			for _, steps := range at {
				for face := 1; face <= k.Faces; face++ {
					if behind, can := modelSteps(k, steps, face); can && !slices.Contains(next, behind) {
						next = append(next, behind)
					}
				}
			}
			at = next
		}
	}
	return moves
}

// trackPattern has a number of one or two digits for each N.
var trackPattern = regexp.MustCompile(strings.ReplaceAll(`\A(N)o(N)x(N):(N(?:,N)*):(-|N(?:,N)*)\z`, "N", `(?:0|[1-9][0-9]?)`))

// modelParseTrack takes a text apart by a pattern.
func modelParseTrack(s string) (impl.Track, bool) {
	m := trackPattern.FindStringSubmatch(s)
	if m == nil {
		return impl.Track{}, false
	}
	var k impl.Track
	for i, number := range []*int{&k.Squares, &k.Faces, &k.Tokens} {
		*number, _ = strconv.Atoi(m[i+1])
	}
	for i, list := range []*[]int{&k.Starts, &k.Safe} {
		for _, text := range strings.Split(m[i+4], ",") {
			if n, err := strconv.Atoi(text); err == nil {
				*list = append(*list, n)
			}
		}
	}
	if !modelIsTrack(k) {
		return impl.Track{}, false
	}
	return k, true
}

// listsOver returns all lists of so many numbers in least..most.
func listsOver(count int, least int, most int) [][]int {
	lists := [][]int{nil}
	for range count {
		var longer [][]int
		for _, list := range lists {
			for n := least; n <= most; n++ {
				longer = append(longer, append(slices.Clone(list), n))
			}
		}
		lists = longer
	}
	return lists
}

// statesOver returns all lists with so many steps in least..most for each
// player, those that are no states among them.
func statesOver(players int, tokens int, least int, most int) [][][]int {
	var states [][][]int
	for _, list := range listsOver(players*tokens, least, most) {
		states = append(states, slices.Collect(slices.Chunk(list, tokens)))
	}
	return states
}

// smallTracks returns all tracks of so many squares, players, and tokens, of at
// most 3 faces, without safe squares and with each one or two of them.
func smallTracks(squares int, players int, tokens int) []impl.Track {
	safe := [][]int{nil}
	for x := range squares {
		safe = append(safe, []int{x})
		for y := range x {
			safe = append(safe, []int{y, x})
		}
	}
	var tracks []impl.Track
	for _, starts := range listsOver(players, 0, squares-1) {
		for _, s := range safe {
			for faces := 1; faces <= 3; faces++ {
				k := impl.Track{Squares: squares, Faces: faces, Tokens: tokens, Starts: starts, Safe: s}
				if modelIsTrack(k) {
					tracks = append(tracks, k)
				}
			}
		}
	}
	return tracks
}

// largeTracks returns tracks of up to 60 squares, always the same ones.
func largeTracks(count int, seed int64) []impl.Track {
	rng := rand.New(rand.NewSource(seed))
	tracks := make([]impl.Track, 0, count)
	for range count {
		k := impl.Track{Squares: 4 + rng.Intn(57), Faces: 1 + rng.Intn(8), Tokens: 1 + rng.Intn(4)}
		k.Starts = rng.Perm(k.Squares)[:2+rng.Intn(3)]
		k.Safe = rng.Perm(k.Squares)[:rng.Intn(k.Squares+1)*rng.Intn(3)/3]
		slices.Sort(k.Safe)
		tracks = append(tracks, k)
	}
	return tracks
}

// seededState returns a state in which tokens are near to each other, some are
// at home and some done, always the same one.
func seededState(k impl.Track, seed int) [][]int {
	rng := rand.New(rand.NewSource(int64(seed)))
	s, _, _ := modelOuting(k, nil)
	s = cloneState(s)
	from := rng.Intn(k.Squares)
	for _, p := range modelPawns(k) {
		for range 3 {
			square := (from + rng.Intn(10)) % k.Squares
			s[p[0]][p[1]] = slices.Index(modelRound(k, p[0]), square)
			if rng.Intn(6) == 0 {
				s[p[0]][p[1]] = k.Squares - rng.Intn(3)
			}
			if rng.Intn(4) > 0 && modelIsState(k, s) {
				break
			}
			s[p[0]][p[1]] = -1
		}
	}
	return s
}

// seededMoves returns so many moves that can be made one after the other,
// always the same ones: fewer if none can be made any more.
func seededMoves(k impl.Track, count int, seed int) [][]int {
	rng := rand.New(rand.NewSource(int64(seed)))
	s, _, _ := modelOuting(k, nil)
	var moves [][]int
	for tries := 0; len(moves) < count && tries < 20*count; tries++ {
		m := []int{rng.Intn(len(k.Starts)), rng.Intn(k.Tokens), 1 + rng.Intn(k.Faces)}
		if rng.Intn(2) == 0 {
			m[2] = k.Faces
		}
		if next, sent := modelGo(k, s, m); sent >= 0 {
			s = next
			moves = append(moves, m)
		}
	}
	return moves
}

// track returns the track with a text that the test relies on.
func track(t *testing.T, s string) impl.Track {
	t.Helper()
	k, ok := impl.ParseTrack(s)
	if !ok {
		t.Fatalf("%s is no track", s)
	}
	return k
}

package tests

import (
	"math/big"
	"math/rand"
	"slices"

	"loop.example/g01306/impl"
)

// The model of chapter 8: all lists of throws are tried one by one where they
// are few. Where they are many, games are the lists that are at the end behind
// their last throw, less those that were there before it.

// modelGame is what one list of throws does with a token from the start.
type modelGame struct {
	throws []int
	path   []int
	jumps  int
}

// modelOf plays a list of throws from the start.
func modelOf(b impl.Board, throws []int) modelGame {
	game := modelGame{throws: throws, path: []int{0}}
	for i, face := range throws {
		if modelJumps(b, game.path[i], face) {
			game.jumps++
		}
		game.path = append(game.path, modelLanding(b, game.path[i], face))
	}
	return game
}

// modelJumps reports whether a throw leads to a square at which a jump begins.
func modelJumps(b impl.Board, square int, face int) bool {
	bare := b
	bare.Jumps = nil
	return modelBegins(b, modelLanding(bare, square, face))
}

// isOne reports whether the end is met just by the last throw.
func (game modelGame) isOne(b impl.Board) bool {
	return slices.Index(game.path, b.Squares) == len(game.throws)
}

// modelGames returns all games of so many throws, in lexicographic order.
func modelGames(b impl.Board, throws int) []modelGame {
	var games []modelGame
	for _, list := range modelAllLists(b.Faces, throws) {
		if game := modelOf(b, list); game.isOne(b) {
			games = append(games, game)
		}
	}
	return games
}

// modelEndings returns for each square how many lists of so many throws lead
// from it to the end just by the last one, without coming to another square,
// none for -1.
func modelEndings(b impl.Board, throws int, without int) []*big.Int {
	if without == b.Squares {
		return modelBackwards(b, throws, func(int) int64 { return 0 }, noWorth, -1)
	}
	at := modelBackwards(b, throws, worthAt(b.Squares), noWorth, without)
	if throws == 0 {
		return at
	}
	for square, n := range modelBackwards(b, throws-1, worthAt(b.Squares), noWorth, without) {
		at[square].Sub(at[square], n.Mul(n, big.NewInt(int64(b.Faces))))
	}
	return at
}

// modelRank adds up, for each throw of a game and for each lesser face instead
// of it, how many games there are that go on from there.
func modelRank(b impl.Board, throws []int) *big.Int {
	rank, game := new(big.Int), modelOf(b, throws)
	for i, face := range throws {
		endings := modelEndings(b, len(throws)-i-1, -1)
		for lesser := 1; lesser < face; lesser++ {
			rank.Add(rank, endings[modelLanding(b, game.path[i], lesser)])
		}
	}
	return rank
}

// modelStop is a square that a token is on, and how many jumps it came by.
type modelStop struct {
	square int
	jumps  int
}

// modelByJumps returns how many games of so many throws go by just so many
// jumps: none where it has no number.
func modelByJumps(b impl.Board, throws int) map[int]*big.Int {
	stops := map[modelStop]*big.Int{{}: big.NewInt(1)}
	for range throws {
		next := map[modelStop]*big.Int{}
		for stop, n := range stops {
			for face := 1; face <= b.Faces && stop.square < b.Squares; face++ {
				to := modelStop{modelLanding(b, stop.square, face), stop.jumps}
				if modelJumps(b, stop.square, face) {
					to.jumps++
				}
				if next[to] == nil {
					next[to] = new(big.Int)
				}
				next[to].Add(next[to], n)
			}
		}
		stops = next
	}
	by := map[int]*big.Int{}
	for stop, n := range stops {
		if stop.square == b.Squares {
			by[stop.jumps] = n
		}
	}
	return by
}

// seededGame throws at random until the end comes, by at most so many throws.
// It fails if that does not happen in many tries.
func seededGame(b impl.Board, most int, seed int64) ([]int, bool) {
	r := rand.New(rand.NewSource(seed))
	for range 200 {
		var throws []int
		square := 0
		for square != b.Squares && len(throws) < most {
			throws = append(throws, 1+r.Intn(b.Faces))
			square = modelLanding(b, square, throws[len(throws)-1])
		}
		if square == b.Squares {
			return throws, true
		}
	}
	return nil, false
}

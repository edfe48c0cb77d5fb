package world_test

import (
	"testing"

	"thunkmill/api"
	"thunkmill/world"
)

// P14.1: behind a mark neither bytes nor a mark; of two errors it is the one that the chapter names first.
func TestBehindTheMark(t *testing.T) {
	chunks := [][]byte{nil, {}, {0}, []byte("ab"), make([]byte, api.MaxInput), make([]byte, api.MaxInput+1)}
	for _, fed := range [][]byte{nil, []byte("xyz"), varied(api.MaxInput)} {
		w := world.New()
		checkErrno(t, "Feed", w.Feed(fed), api.OK)
		checkErrno(t, "End", w.End(), api.OK)
		used := 0
		for _, reads := range []int{0, len(fed) / 2, len(fed) - len(fed)/2} {
			checkRead(t, w, fed[used:used+reads])
			used += reads
			for range 2 {
				for _, b := range chunks {
					checkErrno(t, "Feed behind the mark", w.Feed(b), api.ErrOver)
				}
				checkErrno(t, "End behind the mark", w.End(), api.ErrOver)
			}
			checkStands(t, "behind the mark", w, standing{used: used, left: len(fed) - used, ended: true})
		}
		checkEmpty(t, w, "end")
	}
}

// checkNobodyMade asks all methods of a world that New did not make.
func checkNobodyMade(t *testing.T, what string, w *world.World) {
	t.Helper()
	for range 2 {
		for _, n := range []int{0, 1, 100, api.MaxInput + 1} {
			checkErrno(t, what+": Feed", w.Feed(make([]byte, n)), api.ErrNil)
		}
		checkErrno(t, what+": Feed of nil", w.Feed(nil), api.ErrNil)
		for _, call := range []string{"end", "get", "eof", "put x"} {
			if answer := ask(w, call); answer != "ErrNil" {
				t.Errorf("%s: %s: %s", what, call, answer)
			}
		}
		checkStands(t, what, w, standing{})
	}
}

// Rule 5: a world that is nil, and those that New did not make.
func TestWorldsThatNobodyMade(t *testing.T) {
	checkNobodyMade(t, "nil", nil)
	checkNobodyMade(t, "the zero world", &world.World{})
	checkNobodyMade(t, "a new zero world", new(world.World))
	list := make([]world.World, 2)
	checkNobodyMade(t, "one of a list", &list[1])
}

// Rule 5: a copy of a world is none that New answered; what it is asked changes nothing in the world that was copied.
func TestCopies(t *testing.T) {
	for _, ended := range []bool{false, true} {
		w := world.New()
		w.Feed([]byte("abc"))
		w.Put('o')
		read(t, w, 1)
		if ended {
			w.End()
		}
		c := *w
		checkNobodyMade(t, "a copy", &c)
		checkStands(t, "what was copied", w, standing{out: "o", used: 1, left: 2, ended: ended})
		checkRead(t, w, []byte("bc"))
		*w = *world.New()
		checkNobodyMade(t, "a world that was overwritten", w)
	}
}

// Rule 3, P14.1, P14.3: a call that answers an error has changed nothing.
func TestErrorsChangeNothing(t *testing.T) {
	w := world.New()
	w.Feed([]byte("abc"))
	w.Put('o')
	checkErrno(t, "too long", w.Feed(make([]byte, api.MaxInput-2)), api.ErrLong)
	checkErrno(t, "End behind it", w.End(), api.OK)
	checkErrno(t, "too long behind the mark", w.Feed(make([]byte, api.MaxInput-2)), api.ErrOver)
	checkErrno(t, "a second mark", w.End(), api.ErrOver)
	checkStands(t, "behind errors", w, standing{out: "o", left: 3, ended: true})
	checkErrno(t, "Put", w.Put('p'), api.OK)
	checkRead(t, w, []byte("abc"))
	checkStands(t, "at the end", w, standing{out: "op", used: 3, ended: true})
}

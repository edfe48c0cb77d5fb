package world_test

import (
	"testing"

	"thunkmill/api"
	"thunkmill/world"
)

// P14.1 to P14.3: the chapter's examples.
func TestExamples(t *testing.T) {
	checkRows(t, world.New(), []row{
		{"feed ab", "OK", standing{left: 2}},
		{"get", "'a' byte", standing{used: 1, left: 1}},
		{"eof", "byte", standing{used: 1, left: 1}},
		{"get", "'b' byte", standing{used: 2}},
		{"get", "need", standing{used: 2}},
		{"eof", "need", standing{used: 2}},
		{"end", "OK", standing{used: 2, ended: true}},
		{"get", "end", standing{used: 2, ended: true}},
		{"feed c", "ErrOver", standing{used: 2, ended: true}},
		{"end", "ErrOver", standing{used: 2, ended: true}},
	})
}

// P14.1: a new world has neither bytes nor a mark.
func TestNew(t *testing.T) {
	w := world.New()
	if w == nil {
		t.Fatal("New answers nothing")
	}
	checkStands(t, "a new world", w, standing{})
	checkEmpty(t, w, "need")
	checkStands(t, "a new world that was asked", w, standing{})
}

// P14.1 to P14.3: several chunks, read between and behind, with bytes written between.
func TestChunks(t *testing.T) {
	checkRows(t, world.New(), []row{
		{"get", "need", standing{}},
		{"feed xy", "OK", standing{left: 2}},
		{"put 1", "OK", standing{out: "1", left: 2}},
		{"get", "'x' byte", standing{out: "1", used: 1, left: 1}},
		{"feed z", "OK", standing{out: "1", used: 1, left: 2}},
		{"feed ", "OK", standing{out: "1", used: 1, left: 2}},
		{"put 2", "OK", standing{out: "12", used: 1, left: 2}},
		{"feed vw", "OK", standing{out: "12", used: 1, left: 4}},
		{"get", "'y' byte", standing{out: "12", used: 2, left: 3}},
		{"get", "'z' byte", standing{out: "12", used: 3, left: 2}},
		{"eof", "byte", standing{out: "12", used: 3, left: 2}},
		{"get", "'v' byte", standing{out: "12", used: 4, left: 1}},
		{"get", "'w' byte", standing{out: "12", used: 5}},
		{"eof", "need", standing{out: "12", used: 5}},
		{"get", "need", standing{out: "12", used: 5}},
		{"put 1", "OK", standing{out: "121", used: 5}},
		{"feed x", "OK", standing{out: "121", used: 5, left: 1}},
		{"eof", "byte", standing{out: "121", used: 5, left: 1}},
		{"get", "'x' byte", standing{out: "121", used: 6}},
		{"end", "OK", standing{out: "121", used: 6, ended: true}},
		{"eof", "end", standing{out: "121", used: 6, ended: true}},
		{"put 3", "OK", standing{out: "1213", used: 6, ended: true}},
		{"get", "end", standing{out: "1213", used: 6, ended: true}},
	})
}

// P14.1, P14.2: the mark ahead of any byte.
func TestMarkAlone(t *testing.T) {
	checkRows(t, world.New(), []row{
		{"end", "OK", standing{ended: true}},
		{"eof", "end", standing{ended: true}},
		{"get", "end", standing{ended: true}},
		{"feed a", "ErrOver", standing{ended: true}},
		{"feed ", "ErrOver", standing{ended: true}},
		{"end", "ErrOver", standing{ended: true}},
		{"get", "end", standing{ended: true}},
		{"put a", "OK", standing{out: "a", ended: true}},
		{"eof", "end", standing{out: "a", ended: true}},
	})
}

// P14.1, P14.2: the mark behind bytes of which some were read, or none: what is there is read ahead of it.
func TestMarkBehindBytes(t *testing.T) {
	checkRows(t, world.New(), []row{
		{"feed abc", "OK", standing{left: 3}},
		{"get", "'a' byte", standing{used: 1, left: 2}},
		{"end", "OK", standing{used: 1, left: 2, ended: true}},
		{"eof", "byte", standing{used: 1, left: 2, ended: true}},
		{"get", "'b' byte", standing{used: 2, left: 1, ended: true}},
		{"feed d", "ErrOver", standing{used: 2, left: 1, ended: true}},
		{"feed ", "ErrOver", standing{used: 2, left: 1, ended: true}},
		{"end", "ErrOver", standing{used: 2, left: 1, ended: true}},
		{"get", "'c' byte", standing{used: 3, ended: true}},
		{"eof", "end", standing{used: 3, ended: true}},
		{"get", "end", standing{used: 3, ended: true}},
	})
	checkRows(t, world.New(), []row{
		{"feed a", "OK", standing{left: 1}},
		{"feed b", "OK", standing{left: 2}},
		{"end", "OK", standing{left: 2, ended: true}},
		{"get", "'a' byte", standing{used: 1, left: 1, ended: true}},
		{"get", "'b' byte", standing{used: 2, ended: true}},
		{"get", "end", standing{used: 2, ended: true}},
		{"eof", "end", standing{used: 2, ended: true}},
	})
}

// P14.2: Eof reads nothing, however often it is asked.
func TestEofReadsNothing(t *testing.T) {
	w := world.New()
	checkErrno(t, "Feed", w.Feed([]byte("no")), api.OK)
	for range 100 {
		if answer := ask(w, "eof"); answer != "byte" {
			t.Fatalf("Eof: %s", answer)
		}
		checkStands(t, "behind Eof", w, standing{left: 2})
	}
	checkRead(t, w, []byte("no"))
}

// P14.2, P14.3: what is written is not there to be read, what is fed is not written.
func TestInAndOutApart(t *testing.T) {
	checkRows(t, world.New(), []row{
		{"put a", "OK", standing{out: "a"}},
		{"eof", "need", standing{out: "a"}},
		{"get", "need", standing{out: "a"}},
		{"feed b", "OK", standing{out: "a", left: 1}},
		{"get", "'b' byte", standing{out: "a", used: 1}},
		{"put a", "OK", standing{out: "aa", used: 1}},
	})
}

package world_test

import (
	"bytes"
	"fmt"
	"strings"
	"testing"

	"thunkmill/api"
	"thunkmill/world"
)

// standing is what a world tells of itself without being changed.
type standing struct {
	out   string
	used  int
	left  int
	ended bool
}

func standingOf(w *world.World) standing {
	return standing{string(w.Out()), w.Used(), w.Left(), w.Ended()}
}

// String is brief where much was written.
func (s standing) String() string {
	return fmt.Sprintf("%.40q of %d written, %d used, %d left, ended %v", s.out, len(s.out), s.used, s.left, s.ended)
}

// errorName is how the texts of the tests name an error, findName what Get or Eof found.
func errorName(e api.Errno) string {
	names := map[api.Errno]string{api.OK: "OK", api.ErrNil: "ErrNil", api.ErrLong: "ErrLong", api.ErrOver: "ErrOver"}
	if name := names[e]; name != "" {
		return name
	}
	return fmt.Sprintf("error %d", int(e))
}

func findName(what int) string {
	names := map[int]string{api.WorldByte: "byte", api.WorldEnd: "end", api.WorldNeed: "need"}
	if name := names[what]; name != "" {
		return name
	}
	return fmt.Sprintf("find %d", what)
}

// got is the text of what Get or Eof answered: a byte that is 0 is told beside WorldByte alone.
func got(c byte, what int, e api.Errno) string {
	var l []string
	if c != 0 || what == api.WorldByte {
		l = append(l, fmt.Sprintf("%q", c))
	}
	if what != 0 || e == api.OK {
		l = append(l, findName(what))
	}
	if e != api.OK {
		l = append(l, errorName(e))
	}
	return strings.Join(l, " ")
}

// ask makes the call of a text: feed ab, feed, end, get, eof, put x.
func ask(w *world.World, call string) string {
	name, with, _ := strings.Cut(call, " ")
	switch name {
	case "feed":
		return errorName(w.Feed([]byte(with)))
	case "end":
		return errorName(w.End())
	case "get":
		return got(w.Get())
	case "eof":
		what, e := w.Eof()
		if e != api.OK {
			return got(0, what, e)
		}
		return findName(what)
	case "put":
		return errorName(w.Put(with[0]))
	}
	return "no call: " + call
}

// row is a call, its answer, and how the world stands behind it.
type row struct {
	call   string
	answer string
	standing
}

func checkRows(t *testing.T, w *world.World, rows []row) {
	t.Helper()
	for i, r := range rows {
		if answer := ask(w, r.call); answer != r.answer {
			t.Errorf("call %d, %s: %s, want %s", i, r.call, answer, r.answer)
		}
		checkStands(t, fmt.Sprintf("behind call %d, %s", i, r.call), w, r.standing)
	}
}

func checkStands(t *testing.T, what string, w *world.World, want standing) {
	t.Helper()
	if got := standingOf(w); got != want {
		t.Errorf("%s: %v, want %v", what, got, want)
	}
}

func checkErrno(t *testing.T, what string, got, want api.Errno) {
	t.Helper()
	if got != want {
		t.Errorf("%s: %s, want %s", what, errorName(got), errorName(want))
	}
}

// checkEmpty asks Get and Eof of a world without bytes, again and again.
func checkEmpty(t *testing.T, w *world.World, want string) {
	t.Helper()
	for range 20 {
		for _, call := range []string{"get", "eof", "eof"} {
			if answer := ask(w, call); answer != want {
				t.Fatalf("%s: %s, want %s", call, answer, want)
			}
		}
	}
}

// read takes n bytes, or fails.
func read(t *testing.T, w *world.World, n int) []byte {
	t.Helper()
	l := make([]byte, n)
	for i := range l {
		c, what, e := w.Get()
		if what != api.WorldByte || e != api.OK {
			t.Fatalf("Get of byte %d of %d: %s", i, n, got(c, what, e))
		}
		l[i] = c
	}
	return l
}

// checkRead reads just these bytes.
func checkRead(t *testing.T, w *world.World, want []byte) {
	t.Helper()
	if got := read(t, w, len(want)); !bytes.Equal(got, want) {
		t.Errorf("read %.40q .., want %.40q ..", got, want)
	}
}

// varied are n bytes of all kinds, in which no short piece comes again soon.
func varied(n int) []byte {
	l := make([]byte, n)
	for i := range l {
		l[i] = byte(i ^ i>>8*31 ^ i>>16*17)
	}
	return l
}

package world_test

import (
	"bytes"
	"testing"

	"thunkmill/world"
)

// Rule 4: what was handed to Feed is not kept, not changed, and its spare room is nobody's.
func TestFedIsNotKept(t *testing.T) {
	for _, n := range []int{1, 2, 63, 64, 65, 1000, 70000} {
		room := varied(n + 5)
		fed := bytes.Clone(room[:n])
		w := world.New()
		for range 3 {
			w.Feed(room[:n])
			if !bytes.Equal(room, varied(n+5)) {
				t.Fatalf("Feed has changed what it was handed, %d bytes", n)
			}
			for i := range room {
				room[i] ^= 0x55
			}
			read(t, w, 1)
			for i := range room {
				room[i] ^= 0x55
			}
			if !bytes.Equal(room, varied(n+5)) {
				t.Fatalf("Get has changed what Feed was handed, %d bytes", n)
			}
		}
		clear(room)
		all := bytes.Repeat(fed, 3)
		checkRead(t, w, all[3:])
		checkEmpty(t, w, "need")
	}
}

// Rule 4: one buffer that is filled anew for each chunk.
func TestOneBuffer(t *testing.T) {
	all := varied(20000)
	w := world.New()
	buffer := make([]byte, 37)
	for rest := all; len(rest) > 0; {
		n := copy(buffer, rest)
		w.Feed(buffer[:n])
		rest = rest[n:]
		clear(buffer)
	}
	checkRead(t, w, all)
}

// spoil writes into all of a list, its spare room too, and appends to it.
func spoil(l []byte) {
	_ = append(l, "spoilt"...)
	whole := l[:cap(l)]
	for i := range whole {
		whole[i] = '!'
	}
}

// Rule 4, P14.3: what Out answers is new memory: neither writing into it nor appending to it changes what is told later.
func TestOutIsNew(t *testing.T) {
	w := world.New()
	spoil(w.Out())
	all := varied(5000)
	for i, c := range all {
		w.Put(c)
		first, second := w.Out(), w.Out()
		spoil(first)
		if !bytes.Equal(second, all[:i+1]) {
			t.Fatalf("%d bytes: an answer has changed with another", i+1)
		}
		if !bytes.Equal(w.Out(), all[:i+1]) {
			t.Fatalf("%d bytes: what was written has changed with an answer", i+1)
		}
	}
}

// Rule 4, P14.3: later calls change nothing in what Out answered, nor in its spare room.
func TestOutStays(t *testing.T) {
	w := world.New()
	var answers, whole [][]byte
	for i := range 2000 {
		w.Feed([]byte{'f'})
		l := w.Out()
		answers, whole = append(answers, l), append(whole, bytes.Clone(l[:cap(l)]))
		w.Put(byte(i))
		w.Get()
	}
	w.End()
	for i, l := range answers {
		if len(l) != i || !bytes.Equal(l[:cap(l)], whole[i]) {
			t.Fatalf("the answer of %d bytes has changed", i)
		}
	}
}

// Rule 4: what one world wrote may be fed to it, and to another.
func TestOutIsFed(t *testing.T) {
	w, other := world.New(), world.New()
	for _, c := range []byte("abc") {
		w.Put(c)
	}
	l := w.Out()
	w.Feed(l)
	other.Feed(l)
	spoil(l)
	checkStands(t, "fed what it wrote", w, standing{out: "abc", left: 3})
	checkRead(t, w, []byte("abc"))
	checkRead(t, other, []byte("abc"))
	checkStands(t, "fed what another wrote", other, standing{used: 3})
}

package world_test

import (
	"bytes"
	"fmt"
	"testing"
	"time"

	"thunkmill/api"
	"thunkmill/world"
)

// P14.1: chunks without bytes are fed, and change nothing.
func TestEmptyChunks(t *testing.T) {
	w := world.New()
	for _, b := range [][]byte{nil, {}, make([]byte, 0, 9), []byte("ab")[:0]} {
		checkErrno(t, "Feed of nothing", w.Feed(b), api.OK)
		checkStands(t, "fed nothing", w, standing{})
		checkEmpty(t, w, "need")
	}
	w.Feed([]byte("ab"))
	for _, b := range [][]byte{nil, {}} {
		checkErrno(t, "Feed of nothing behind bytes", w.Feed(b), api.OK)
		checkStands(t, "fed nothing behind bytes", w, standing{left: 2})
	}
	checkRead(t, w, []byte("ab"))
	checkErrno(t, "Feed of nothing behind what was read", w.Feed(nil), api.OK)
	checkStands(t, "fed nothing behind what was read", w, standing{used: 2})
}

// P14.2, P14.3: each byte is one like others, 0 and 255 too.
func TestEachByte(t *testing.T) {
	w := world.New()
	var wrote []byte
	for i := range 256 {
		c := byte(i)
		checkErrno(t, "Feed", w.Feed([]byte{c, c ^ 255}), api.OK)
		for _, want := range []byte{c, c ^ 255} {
			if what, e := w.Eof(); what != api.WorldByte || e != api.OK {
				t.Errorf("Eof ahead of %d: %s %s", want, findName(what), errorName(e))
			}
			if got, what, e := w.Get(); got != want || what != api.WorldByte || e != api.OK {
				t.Errorf("Get of %d: %d %s %s", want, got, findName(what), errorName(e))
			}
		}
		wrote = append(wrote, c)
		checkErrno(t, "Put", w.Put(c), api.OK)
		checkStands(t, fmt.Sprint("behind byte ", i), w, standing{out: string(wrote), used: 2*i + 2})
	}
	checkEmpty(t, w, "need")
}

// P14.2: without a byte Get and Eof answer the same again and again, with a mark and without one.
func TestNothingToRead(t *testing.T) {
	w := world.New()
	checkEmpty(t, w, "need")
	w.Feed([]byte{0, 255})
	checkRead(t, w, []byte{0, 255})
	checkEmpty(t, w, "need")
	w.Put(0)
	checkEmpty(t, w, "need")
	w.End()
	checkEmpty(t, w, "end")
	checkStands(t, "at the end", w, standing{out: "\x00", used: 2, ended: true})
}

// checkFed asks a world that was fed all that may be for more.
func checkFed(t *testing.T, what string, w *world.World, used int) {
	t.Helper()
	want := standing{used: used, left: api.MaxInput - used}
	checkStands(t, what, w, want)
	for _, more := range []int{1, 2, 1000, api.MaxInput, api.MaxInput + 1} {
		checkErrno(t, fmt.Sprintf("%s, and %d more", what, more), w.Feed(make([]byte, more)), api.ErrLong)
		checkStands(t, fmt.Sprintf("%s, behind %d more", what, more), w, want)
	}
	checkErrno(t, what+", and nothing more", w.Feed(nil), api.OK)
	checkErrno(t, what+", and an empty chunk", w.Feed([]byte{}), api.OK)
	checkStands(t, what+", behind nothing more", w, want)
}

// P14.1: MaxInput bytes in one chunk; those that were read count, too.
func TestFullInOne(t *testing.T) {
	all := varied(api.MaxInput)
	w := world.New()
	checkErrno(t, "MaxInput bytes", w.Feed(all), api.OK)
	checkFed(t, "MaxInput bytes", w, 0)
	checkRead(t, w, all[:1])
	checkFed(t, "one of them read", w, 1)
	checkRead(t, w, all[1:])
	checkFed(t, "all of them read", w, api.MaxInput)
	checkEmpty(t, w, "need")
	checkErrno(t, "End", w.End(), api.OK)
	checkEmpty(t, w, "end")
	checkErrno(t, "Feed behind the mark", w.Feed([]byte{1}), api.ErrOver)
}

// P14.1: MaxInput bytes in several chunks, all of which, some of which, or none of which are read between.
func TestFullInSeveral(t *testing.T) {
	all := varied(api.MaxInput)
	for _, sizes := range [][]int{{1}, {api.MaxInput - 1}, {1000, 1, 77777}, {api.MaxInput / 2}, {0, api.MaxInput / 3, 0, api.MaxInput / 3}} {
		for _, part := range []int{0, 1, 2} {
			w := world.New()
			fed, used := 0, 0
			for _, n := range append(sizes, api.MaxInput) {
				n = min(n, api.MaxInput-fed)
				checkErrno(t, fmt.Sprint("one more than is left of ", sizes), w.Feed(make([]byte, api.MaxInput-fed+1)), api.ErrLong)
				checkErrno(t, fmt.Sprint("chunks of ", sizes), w.Feed(all[fed:fed+n]), api.OK)
				fed += n
				reads := (fed - used) * part / 2
				checkRead(t, w, all[used:used+reads])
				used += reads
				checkStands(t, fmt.Sprint("chunks of ", sizes), w, standing{used: used, left: fed - used})
			}
			checkFed(t, fmt.Sprint("chunks of ", sizes), w, used)
			checkRead(t, w, all[used:])
			checkFed(t, fmt.Sprint("all read of chunks of ", sizes), w, api.MaxInput)
		}
	}
}

// P14.1: a chunk that is too long changes nothing, a shorter one behind it is fed.
func TestTooLong(t *testing.T) {
	long := varied(3 * api.MaxInput)
	w := world.New()
	for _, n := range []int{api.MaxInput + 1, 2 * api.MaxInput, 3 * api.MaxInput} {
		checkErrno(t, fmt.Sprint(n, " bytes"), w.Feed(long[:n]), api.ErrLong)
		checkStands(t, fmt.Sprint("behind ", n, " bytes"), w, standing{})
		checkEmpty(t, w, "need")
	}
	checkErrno(t, "a shorter one", w.Feed([]byte("abc")), api.OK)
	checkErrno(t, "too long behind it", w.Feed(long[:api.MaxInput-2]), api.ErrLong)
	checkStands(t, "behind both", w, standing{left: 3})
	checkRead(t, w, []byte("ab"))
	checkErrno(t, "too long, though some were read", w.Feed(long[:api.MaxInput-2]), api.ErrLong)
	checkErrno(t, "just so long", w.Feed(long[:api.MaxInput-3]), api.OK)
	checkErrno(t, "End", w.End(), api.OK)
	checkRead(t, w, append([]byte("c"), long[:api.MaxInput-3]...))
	checkEmpty(t, w, "end")
	checkStands(t, "at the end", w, standing{used: api.MaxInput, ended: true})
}

// P14.3: MaxOutput bytes may be written, and no more; what is read is as before.
func TestFullOutput(t *testing.T) {
	all := varied(api.MaxOutput)
	w := world.New()
	w.Feed([]byte("ab"))
	for i, c := range all {
		if e := w.Put(c); e != api.OK {
			t.Fatalf("Put of byte %d: %s", i, errorName(e))
		}
		if i == api.MaxOutput-2 && !bytes.Equal(w.Out(), all[:i+1]) {
			t.Errorf("not what was written, but for one byte")
		}
	}
	want := standing{out: string(all), left: 2}
	checkStands(t, "all written", w, want)
	for _, c := range []byte{0, 1, 255} {
		checkErrno(t, "one more", w.Put(c), api.ErrLong)
		checkStands(t, "behind one more", w, want)
	}
	checkRead(t, w, []byte("a"))
	checkErrno(t, "Feed", w.Feed([]byte("c")), api.OK)
	checkErrno(t, "End", w.End(), api.OK)
	checkRead(t, w, []byte("bc"))
	checkErrno(t, "one more at the end", w.Put('x'), api.ErrLong)
	checkStands(t, "at the end", w, standing{out: string(all), used: 3, ended: true})
}

// P14.1, P14.2: as many small chunks as there may be; a world that moved all bytes with each of them would take hours.
func TestManyChunks(t *testing.T) {
	all := varied(api.MaxInput)
	began := time.Now()
	for _, size := range []int{1, 3, 64} {
		w := world.New()
		for rest := all; len(rest) > 0; {
			n := min(size, len(rest))
			if e := w.Feed(rest[:n]); e != api.OK {
				t.Fatalf("chunks of %d: %s", size, errorName(e))
			}
			rest = rest[n:]
		}
		checkFed(t, fmt.Sprint("chunks of ", size), w, 0)
		checkRead(t, w, all)
	}
	if took := time.Since(began); took > time.Minute {
		t.Errorf("it took %v", took)
	}
}

// P14.4: chunks of all small sizes behind a number of bytes of which some were read.
func TestSizes(t *testing.T) {
	all := varied(1000)
	for ahead := 0; ahead < 140; ahead += 3 {
		for reads := 0; reads <= ahead; reads += 7 {
			for size := 0; size < 140; size++ {
				w := world.New()
				w.Feed(all[:ahead])
				checkRead(t, w, all[:reads])
				w.Feed(all[ahead : ahead+size])
				checkStands(t, "between", w, standing{used: reads, left: ahead - reads + size})
				w.Feed(all[ahead+size : ahead+size+2])
				checkRead(t, w, all[reads:ahead+size+2])
				checkStands(t, "behind", w, standing{used: ahead + size + 2})
			}
		}
	}
}

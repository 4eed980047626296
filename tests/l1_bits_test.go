package tests

import (
	"bytes"
	"math"
	"math/big"
	"math/bits"
	"math/rand"
	"strconv"
	"strings"
	"testing"

	"loop.example/g00039/impl"
)

// edgeInts are numbers at which signs, bytes, pieces of 7 bits and words begin and end.
func edgeInts() []int {
	out := []int{0, 1, -1, math.MaxInt, math.MinInt, 6148914691236517205, -6148914691236517206}
	for k := range 63 {
		p := 1 << k
		out = append(out, p-1, p, p+1, -p-1, -p, -p+1)
	}
	r := rand.New(rand.NewSource(1))
	for range 300 {
		out = append(out, int(r.Uint64()>>r.Intn(64)), -int(r.Uint64()>>r.Intn(64)))
	}
	return out
}

// lowText tells the n lowest bits of v as noughts and ones.
func lowText(v int, n int) string {
	t := strconv.FormatUint(uint64(v), 2)
	t = strings.Repeat("0", 64-len(t)) + t
	return t[64-n:]
}

// textBits packs noughts and ones without help of the program.
func textBits(t string) impl.Bits {
	data := make([]byte, (len(t)+7)/8)
	for i, c := range []byte(t) {
		if c == '1' {
			data[i/8] |= 128 >> (i % 8)
		}
	}
	return impl.Bits{Data: data, Size: len(t)}
}

func textNumber(t string) int {
	if t == "" {
		return 0
	}
	n, err := strconv.ParseUint(t, 2, 64)
	if err != nil {
		panic(err)
	}
	return int(n)
}

func randomText(r *rand.Rand, n int) string {
	b := make([]byte, n)
	for i := range b {
		b[i] = byte('0' + r.Intn(2))
	}
	return string(b)
}

func sameBits(a impl.Bits, b impl.Bits) bool {
	return a.Size == b.Size && bytes.Equal(a.Data, b.Data)
}

func zeroBits(b impl.Bits) bool {
	return b.Size == 0 && len(b.Data) == 0
}

// Promise 1: what is added stands behind, and all ahead of it is as it was.
func TestBitsAddedAreTakenAgain(t *testing.T) {
	r := rand.New(rand.NewSource(2))
	values := []int{0, 1, -1, math.MinInt, math.MaxInt, 6148914691236517205, int(r.Uint64())}
	for size := range 75 {
		text := randomText(r, size)
		b := textBits(text)
		for n := range 65 {
			for _, v := range values {
				got := impl.AddBits(b, v, n)
				want := text + lowText(v, n)
				if !impl.GoodBits(got) || !sameBits(got, textBits(want)) {
					t.Fatalf("AddBits of %q, %d, %d: %v", text, v, n, got)
				}
				if x, ok := impl.TakeBits(got, size, n); !ok || x != textNumber(lowText(v, n)) {
					t.Fatalf("TakeBits of %q, %d, %d: %d", want, size, n, x)
				}
				if ahead, ok := impl.TakeBits(got, 0, min(size, 64)); !ok || ahead != textNumber(text[:min(size, 64)]) {
					t.Fatalf("ahead of %q: %d", want, ahead)
				}
			}
		}
	}
}

func TestBitsAreTakenFromAnyPlace(t *testing.T) {
	r := rand.New(rand.NewSource(3))
	for _, size := range []int{0, 1, 7, 8, 9, 15, 16, 17, 63, 64, 65, 71, 72, 73, 200} {
		text := randomText(r, size)
		b := textBits(text)
		for at := range size + 3 {
			for n := range 65 {
				v, ok := impl.TakeBits(b, at, n)
				if ok != (at+n <= size) {
					t.Fatalf("size %d, at %d, n %d: %v", size, at, n, ok)
				}
				want := 0
				if ok {
					want = textNumber(text[at : at+n])
				}
				if v != want {
					t.Fatalf("size %d, at %d, n %d: %d, not %d", size, at, n, v, want)
				}
			}
		}
	}
}

// Promise 1: many additions of many widths, all of them still there at the end.
func TestBitsOfManyAdditions(t *testing.T) {
	r := rand.New(rand.NewSource(4))
	var text strings.Builder
	b := impl.Bits{}
	type added struct{ at, v, n int }
	var all []added
	for range 400 {
		v, n := int(r.Uint64()), r.Intn(65)
		all = append(all, added{b.Size, v, n})
		text.WriteString(lowText(v, n))
		b = impl.AddBits(b, v, n)
	}
	if !sameBits(b, textBits(text.String())) {
		t.Fatal("the bits are not those that were added")
	}
	for _, a := range all {
		if v, ok := impl.TakeBits(b, a.at, a.n); !ok || v != textNumber(lowText(a.v, a.n)) {
			t.Fatal(a, v, ok)
		}
	}
}

func TestGoodBits(t *testing.T) {
	for size := 0; size <= 33; size++ {
		ones := textBits(strings.Repeat("1", size))
		if !impl.GoodBits(ones) {
			t.Error("not good:", ones)
		}
		long := impl.Bits{Data: append(bytes.Clone(ones.Data), 0), Size: size}
		if impl.GoodBits(long) {
			t.Error("a byte too many:", long)
		}
		if size == 0 {
			continue
		}
		if short := (impl.Bits{Data: ones.Data[:len(ones.Data)-1], Size: size}); impl.GoodBits(short) {
			t.Error("a byte too few:", short)
		}
		for bit := size; bit < 8*len(ones.Data); bit++ {
			rest := textBits(strings.Repeat("1", size))
			rest.Data[bit/8] |= 128 >> (bit % 8)
			if impl.GoodBits(rest) {
				t.Error("a bit behind the last one:", rest)
			}
		}
	}
	if !impl.GoodBits(impl.Bits{}) || !impl.GoodBits(impl.Bits{Data: []byte{}}) {
		t.Error("no bits are good")
	}
}

// badBits are not good, each for a reason of its own.
func badBits() []impl.Bits {
	return []impl.Bits{
		{Size: -1},
		{Size: -8, Data: []byte{1}},
		{Size: -7, Data: nil},
		{Size: math.MinInt},
		{Size: math.MaxInt},
		{Size: math.MaxInt, Data: []byte{1, 2}},
		{Size: 0, Data: []byte{0}},
		{Size: 1},
		{Size: 8, Data: []byte{1, 0}},
		{Size: 9, Data: []byte{1}},
		{Size: 7, Data: []byte{1}},
		{Size: 9, Data: []byte{0, 64}},
		{Size: 15, Data: []byte{0, 1}},
		{Size: impl.MaxBits + 1, Data: make([]byte, impl.MaxBits/8+1)},
		{Size: impl.MaxBits + 8, Data: make([]byte, impl.MaxBits/8+1)},
	}
}

// Promise 27: bits that are not good, and n and at out of their range.
func TestBitsWrongArguments(t *testing.T) {
	for _, b := range badBits() {
		if impl.GoodBits(b) {
			t.Error("good:", b.Size, len(b.Data))
		}
		for _, n := range []int{0, 1, 64} {
			if got := impl.AddBits(b, -1, n); !zeroBits(got) {
				t.Error("added to", b.Size, len(b.Data), n, got)
			}
			if v, ok := impl.TakeBits(b, 0, n); ok || v != 0 {
				t.Error("taken from", b.Size, len(b.Data), n, v)
			}
		}
	}
	good := textBits(strings.Repeat("1", 200))
	for _, n := range []int{-1, -64, 65, 66, 128, math.MinInt, math.MaxInt} {
		if got := impl.AddBits(good, -1, n); !zeroBits(got) {
			t.Error("added", n, got)
		}
		if v, ok := impl.TakeBits(good, 0, n); ok || v != 0 {
			t.Error("taken", n, v)
		}
	}
	for _, at := range []int{-1, -8, -64, 137, 200, 201, math.MinInt, math.MaxInt, math.MaxInt - 63} {
		if v, ok := impl.TakeBits(good, at, 64); ok || v != 0 {
			t.Error("taken at", at, v)
		}
	}
	if v, ok := impl.TakeBits(good, 200, 0); !ok || v != 0 {
		t.Error("no bits at the end are there")
	}
}

// The limit MaxBits, met exactly and passed by one.
func TestBitsLimit(t *testing.T) {
	full := impl.Bits{Data: bytes.Repeat([]byte{255}, impl.MaxBits/8), Size: impl.MaxBits}
	if impl.MaxBits != 80000 || !impl.GoodBits(full) {
		t.Fatal("MaxBits bits are good")
	}
	if v, ok := impl.TakeBits(full, impl.MaxBits-64, 64); !ok || v != -1 {
		t.Error("the last word:", v, ok)
	}
	if _, ok := impl.TakeBits(full, impl.MaxBits-63, 64); ok {
		t.Error("beyond the last word")
	}
	if got := impl.AddBits(full, 0, 0); !sameBits(got, full) {
		t.Error("nothing added to MaxBits bits")
	}
	if got := impl.AddBits(full, 0, 1); !zeroBits(got) {
		t.Error("MaxBits and one more:", got.Size)
	}
	for _, less := range []int{1, 5, 8, 64} {
		b := textBits(strings.Repeat("1", impl.MaxBits-less))
		if got := impl.AddBits(b, -1, less); !sameBits(got, full) {
			t.Error("up to MaxBits:", less, got.Size)
		}
		if less < 64 {
			if got := impl.AddBits(b, -1, less+1); !zeroBits(got) {
				t.Error("beyond MaxBits:", less, got.Size)
			}
		}
	}
}

// Promise 27: nothing is written into the argument or behind it, and the answer is memory of its own.
func TestBitsShareNothing(t *testing.T) {
	for size := range 25 {
		for _, n := range []int{0, 1, 3, 8, 64} {
			memory := bytes.Repeat([]byte{165}, 20)
			b := textBits(strings.Repeat("1", size))
			many := copy(memory, b.Data)
			b.Data = memory[:many]
			before := bytes.Clone(memory)
			got := impl.AddBits(b, -1, n)
			impl.TakeBits(b, 0, min(size, 64))
			if !bytes.Equal(memory, before) {
				t.Fatal("written into the argument", size, n)
			}
			want := impl.Bits{Data: bytes.Clone(got.Data), Size: got.Size}
			clear(memory)
			if !sameBits(got, want) {
				t.Fatal("the answer hangs on the argument", size, n)
			}
			copy(memory, before)
			for i := range got.Data[:cap(got.Data)] {
				got.Data[:cap(got.Data)][i] = 0
			}
			if !bytes.Equal(memory, before) {
				t.Fatal("the argument hangs on the answer", size, n)
			}
		}
	}
}

// Promise 1: ZigZag and UnZigZag have a way back both ways.
func TestZigZagBothWays(t *testing.T) {
	for _, n := range edgeInts() {
		want := 2 * n
		if n < 0 {
			want = -2*n - 1
		}
		if got := impl.ZigZag(n); got != want {
			t.Errorf("ZigZag(%d) = %d, not %d", n, got, want)
		}
		if got := impl.UnZigZag(impl.ZigZag(n)); got != n {
			t.Errorf("UnZigZag(ZigZag(%d)) = %d", n, got)
		}
		if got := impl.ZigZag(impl.UnZigZag(n)); got != n {
			t.Errorf("ZigZag(UnZigZag(%d)) = %d", n, got)
		}
	}
	for i, want := range []int{0, -1, 1, -2, 2, -3, 3} {
		if impl.UnZigZag(i) != want || impl.ZigZag(want) != i {
			t.Error(i, want)
		}
	}
	if impl.ZigZag(math.MinInt) != -1 || impl.ZigZag(math.MaxInt) != -2 || impl.UnZigZag(-1) != math.MinInt {
		t.Error("the ends")
	}
}

// Promise 1: every number is read back, wherever it stands within more bytes.
func TestVarIsReadBackAnywhere(t *testing.T) {
	for _, n := range edgeInts() {
		p := impl.PutVar(n)
		if want := max(1, (bits.Len64(uint64(n))+6)/7); len(p) != want {
			t.Fatalf("PutVar(%d) has %d bytes, not %d", n, len(p), want)
		}
		for ahead := range 12 {
			for _, rest := range [][]byte{nil, {0}, {1}, {128}, {255, 255}, bytes.Repeat([]byte{128}, 12)} {
				data := append(bytes.Repeat([]byte{255}, ahead), p...)
				data = append(data, rest...)
				if got, next := impl.TakeVar(data, ahead); got != n || next != ahead+len(p) {
					t.Fatalf("TakeVar(%v, %d) = %d, %d", data, ahead, got, next)
				}
			}
		}
	}
}

func TestVarsInARow(t *testing.T) {
	all := edgeInts()
	var data []byte
	for _, n := range all {
		data = append(data, impl.PutVar(n)...)
	}
	at := 0
	for _, n := range all {
		got, next := impl.TakeVar(data, at)
		if got != n || next <= at {
			t.Fatalf("at %d: %d, %d, not %d", at, got, next, n)
		}
		at = next
	}
	if at != len(data) {
		t.Error("bytes are left:", at, len(data))
	}
}

func TestVarBytes(t *testing.T) {
	for _, c := range []struct {
		n    int
		want []byte
	}{
		{0, []byte{0}},
		{1, []byte{1}},
		{127, []byte{127}},
		{128, []byte{128, 1}},
		{16383, []byte{255, 127}},
		{16384, []byte{128, 128, 1}},
		{math.MaxInt, []byte{255, 255, 255, 255, 255, 255, 255, 255, 127}},
		{math.MinInt, []byte{128, 128, 128, 128, 128, 128, 128, 128, 128, 1}},
		{-1, []byte{255, 255, 255, 255, 255, 255, 255, 255, 255, 1}},
	} {
		if got := impl.PutVar(c.n); !bytes.Equal(got, c.want) {
			t.Errorf("PutVar(%d) = %v", c.n, got)
		}
	}
}

// All data of one and two bytes: a number is read just where PutVar wrote one.
func TestVarOfShortData(t *testing.T) {
	known := map[string]int{}
	for n := range 1 << 14 {
		known[string(impl.PutVar(n))] = n
	}
	for a := range 256 {
		for b := range 256 {
			data := []byte{byte(a), byte(b)}
			wantN, wantNext := 0, -1
			for size := 1; size <= 2; size++ {
				if n, ok := known[string(data[:size])]; ok {
					wantN, wantNext = n, size
				}
			}
			if n, next := impl.TakeVar(data, 0); n != wantN || next != wantNext {
				t.Fatalf("TakeVar(%v, 0) = %d, %d, not %d, %d", data, n, next, wantN, wantNext)
			}
		}
	}
}

func refuseVar(t *testing.T, what string, data []byte, at int) {
	t.Helper()
	before := bytes.Clone(data)
	if n, next := impl.TakeVar(data, at); n != 0 || next != -1 {
		t.Errorf("%s: TakeVar(%v, %d) = %d, %d", what, data, at, n, next)
	}
	if !bytes.Equal(before, data) {
		t.Errorf("%s: written into the argument", what)
	}
}

// Promise 27: numbers that are cut short, not told shortest or too long, and places out of range.
func TestVarWrongArguments(t *testing.T) {
	for _, n := range edgeInts() {
		p := impl.PutVar(n)
		for size := range len(p) {
			// The rest stands behind the list's length, where nothing may be read.
			refuseVar(t, "cut short", p[:size], 0)
		}
		for zeros := 0; zeros < 12; zeros++ {
			long := bytes.Clone(p)
			long[len(long)-1] |= 128
			long = append(long, bytes.Repeat([]byte{128}, zeros)...)
			refuseVar(t, "not shortest", append(long, 0), 0)
		}
	}
	nine := bytes.Repeat([]byte{255}, 9)
	for last := 2; last < 256; last++ {
		refuseVar(t, "beyond a word", append(bytes.Clone(nine), byte(last)), 0)
		refuseVar(t, "eleven bytes", append(bytes.Clone(nine), byte(last), 1), 0)
	}
	refuseVar(t, "a last byte of 0", append(bytes.Clone(nine), 0), 0)
	refuseVar(t, "without an end", bytes.Repeat([]byte{128}, 100), 0)
	refuseVar(t, "eleven bytes", append(bytes.Repeat([]byte{128}, 10), 1), 0)
	if n, next := impl.TakeVar(append(bytes.Clone(nine), 1), 0); n != -1 || next != 10 {
		t.Error("ten bytes:", n, next)
	}
	for _, at := range []int{-1, -3, 3, 4, math.MinInt, math.MaxInt} {
		refuseVar(t, "out of range", []byte{1, 2, 3}, at)
	}
	for _, at := range []int{-1, 0, 1, math.MaxInt} {
		refuseVar(t, "no data", nil, at)
	}
}

func TestPutVarIsNewMemory(t *testing.T) {
	for _, n := range edgeInts() {
		a, b := impl.PutVar(n), impl.PutVar(n)
		want := bytes.Clone(b)
		clear(a[:cap(a)])
		if !bytes.Equal(b, want) || !bytes.Equal(impl.PutVar(n), want) {
			t.Fatal("two answers share memory:", n)
		}
	}
}

// slowSum is the rule of Sum32 bit by bit.
func slowSum(data []byte) int {
	r := 4294967295
	for _, b := range data {
		r ^= int(b)
		for range 8 {
			odd := r%2 == 1
			r /= 2
			if odd {
				r ^= 3988292384
			}
		}
	}
	return r ^ 4294967295
}

// slowMix is the rule of Mix in numbers without a size.
func slowMix(data []byte) int {
	word := new(big.Int).Lsh(big.NewInt(1), 64)
	h := big.NewInt(1469598103)
	for _, b := range data {
		h.Xor(h, big.NewInt(int64(b)))
		h.Mul(h, big.NewInt(1099511628211))
		h.Mod(h, word)
		h.Xor(h, new(big.Int).Rsh(h, 29))
	}
	return int(h.Rsh(h, 1).Int64())
}

func TestSumAndMix(t *testing.T) {
	r := rand.New(rand.NewSource(5))
	var all [][]byte
	for b := range 256 {
		all = append(all, []byte{byte(b)}, []byte{byte(b), byte(255 - b)})
	}
	for size := range 200 {
		data := make([]byte, size)
		r.Read(data)
		all = append(all, data)
	}
	all = append(all, nil, []byte{}, make([]byte, 1000), bytes.Repeat([]byte{255}, 1000))
	for _, data := range all {
		before := bytes.Clone(data)
		if got := impl.Sum32(data); got != slowSum(data) {
			t.Fatalf("Sum32(%v) = %d", data, got)
		}
		if got := impl.Mix(data); got != slowMix(data) || got < 0 {
			t.Fatalf("Mix(%v) = %d", data, got)
		}
		if !bytes.Equal(before, data) {
			t.Fatal("written into the argument")
		}
	}
	if impl.Sum32(nil) != 0 || impl.Sum32([]byte("123456789")) != 3421780262 || impl.Mix(nil) != 734799051 {
		t.Error("known answers")
	}
	memory := []byte("123456789")
	if impl.Sum32(memory[:3]) != slowSum([]byte("123")) || impl.Mix(memory[:3]) != slowMix([]byte("123")) {
		t.Error("read behind the list's length")
	}
}

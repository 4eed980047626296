package impl

const MaxBits = 80000

// A word of 64 bits fills at most ten pieces of 7 bits; the tenth holds one bit alone.
const maxVarBytes = 10

// sumTable holds, for each value of four bits, what four steps of Sum32 make of it.
var sumTable = [16]uint32{
	0, 498536548, 997073096, 651767980,
	1994146192, 1802195444, 1303535960, 1342533948,
	3988292384, 4027552580, 3604390888, 3412177804,
	2607071920, 2262029012, 2685067896, 3183342108,
}

type Bits struct {
	Data []byte
	Size int
}

// bitWriter adds bits behind those it has; its data are its own memory.
type bitWriter struct {
	data []byte
	size int
}

// put adds the n lowest bits of word, n in 0..64, by as many at once as the last byte has room for.
func (w *bitWriter) put(word uint64, n int) {
	for n > 0 {
		room := 8 - w.size%8
		if room == 8 {
			w.data = append(w.data, 0)
		}
		many := min(n, room)
		piece := byte(word>>(n-many)) & lowMask(many)
		w.data[len(w.data)-1] |= piece << (room - many)
		w.size += many
		n -= many
	}
}

func (w *bitWriter) bits() Bits {
	return Bits{Data: w.data, Size: w.size}
}

// bitReader reads good bits one after the other; who asks it has seen that they are there.
type bitReader struct {
	data []byte
	at   int
}

func (r *bitReader) take(n int) uint64 {
	word := uint64(0)
	for n > 0 {
		left := 8 - r.at%8
		many := min(n, left)
		piece := r.data[r.at/8] >> (left - many) & lowMask(many)
		word = word<<many | uint64(piece)
		r.at += many
		n -= many
	}
	return word
}

// lowMask has its n lowest bits set, n in 0..8.
func lowMask(n int) byte {
	return byte(uint(1)<<n - 1)
}

func GoodBits(b Bits) bool {
	if b.Size < 0 || b.Size > MaxBits || len(b.Data) != (b.Size+7)/8 {
		return false
	}
	used := b.Size % 8
	return used == 0 || b.Data[len(b.Data)-1]&lowMask(8-used) == 0
}

func AddBits(b Bits, v int, n int) Bits {
	if !GoodBits(b) || n < 0 || n > 64 || b.Size+n > MaxBits {
		return Bits{}
	}
	// The copy has room for the new bits, so that adding them moves nothing again.
	data := make([]byte, len(b.Data), (b.Size+n+7)/8)
	copy(data, b.Data)
	w := bitWriter{data: data, size: b.Size}
	w.put(uint64(v), n)
	return w.bits()
}

func TakeBits(b Bits, at int, n int) (int, bool) {
	if !GoodBits(b) || at < 0 || n < 0 || n > 64 || at > b.Size-n {
		return 0, false
	}
	r := bitReader{data: b.Data, at: at}
	return int(r.take(n)), true
}

func ZigZag(n int) int {
	return n<<1 ^ n>>63
}

func UnZigZag(n int) int {
	return int(uint64(n)>>1) ^ -(n & 1)
}

func PutVar(n int) []byte {
	word := uint64(n)
	data := make([]byte, 0, maxVarBytes)
	for word >= 128 {
		data = append(data, byte(word)|128)
		word >>= 7
	}
	return append(data, byte(word))
}

func TakeVar(data []byte, at int) (int, int) {
	if at < 0 || at >= len(data) {
		return 0, -1
	}
	word := uint64(0)
	for i, b := range data[at:] {
		// A tenth byte above 1 would need bits that a word does not have; it also ends what is too long.
		if i == maxVarBytes-1 && b > 1 {
			return 0, -1
		}
		word |= uint64(b&127) << (7 * i)
		if b >= 128 {
			continue
		}
		// A last byte of 0 says nothing: PutVar writes it for the number 0 alone.
		if b == 0 && i > 0 {
			return 0, -1
		}
		return int(word), at + i + 1
	}
	return 0, -1
}

func Sum32(data []byte) int {
	r := uint32(4294967295)
	for _, b := range data {
		r ^= uint32(b)
		r = sumTable[r&15] ^ r>>4
		r = sumTable[r&15] ^ r>>4
	}
	return int(r ^ 4294967295)
}

func Mix(data []byte) int {
	h := uint64(1469598103)
	for _, b := range data {
		h ^= uint64(b)
		h *= 1099511628211
		h ^= h >> 29
	}
	return int(h >> 1)
}

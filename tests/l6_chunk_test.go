package tests

import (
	"math"
	"math/rand"
	"slices"
	"sort"
	"strings"
	"testing"

	"loop.example/g00039/impl"
)

func goodSamplesModel(l []impl.Sample) bool {
	for i, s := range l {
		if s.Time < 0 || s.Time > maxTime || i > 0 && l[i-1].Time >= s.Time {
			return false
		}
	}
	return len(l) <= 2000
}

// bendText tells a bend in noughts and ones.
func bendText(bend int) string {
	switch {
	case bend == 0:
		return "0"
	case bend >= -63 && bend <= 64:
		return "10" + lowText(bend+63, 7)
	case bend >= -255 && bend <= 256:
		return "110" + lowText(bend+255, 9)
	case bend >= -2047 && bend <= 2048:
		return "1110" + lowText(bend+2047, 12)
	}
	return "1111" + lowText(bend, 64)
}

// newFrameText tells a turn, given in noughts and ones, in the least frame that it has.
func newFrameText(turn string) string {
	between := strings.Trim(turn, "0")
	return "11" + lowText(strings.Index(turn, "1"), 6) + lowText(len(between)-1, 6) + between
}

// turnText tells a turn in noughts and ones; frame has a 1 at each place that stands in it, and is empty where there is none.
func turnText(turn string, frame string) (string, string) {
	first, last := strings.Index(turn, "1"), strings.LastIndex(turn, "1")
	if first < 0 {
		return "0", frame
	}
	if from, to := strings.Index(frame, "1"), strings.LastIndex(frame, "1"); frame != "" && from <= first && last <= to {
		return "10" + turn[from:to+1], frame
	}
	return newFrameText(turn), strings.Repeat("0", first) + strings.Repeat("1", last-first+1) + strings.Repeat("0", 63-last)
}

// chunkModel tells a chunk of good samples in noughts and ones.
func chunkModel(l []impl.Sample) string {
	text, frame := lowText(len(l), 8), ""
	for i, s := range l {
		if i == 0 {
			text += lowText(s.Time, 40) + lowText(s.Value, 64)
			continue
		}
		bend := s.Time - l[i-1].Time
		if i > 1 {
			bend -= l[i-1].Time - l[i-2].Time
		}
		var turn string
		turn, frame = turnText(lowText(s.Value^l[i-1].Value, 64), frame)
		text += bendText(bend) + turn
	}
	return text
}

// cutText takes the first n noughts and ones of a text; ok stays only where they are there.
func cutText(text *string, n int, ok *bool) string {
	if n > len(*text) {
		*text, *ok = "", false
		return strings.Repeat("0", n)
	}
	piece := (*text)[:n]
	*text = (*text)[n:]
	return piece
}

// cutBend takes a bend, and is not content where it is told by a longer class than need be.
func cutBend(text *string, ok *bool) int {
	ones := 0
	for ones < 4 && cutText(text, 1, ok) == "1" {
		ones++
	}
	bend := textNumber(cutText(text, []int{0, 7, 9, 12, 64}[ones], ok)) - []int{0, 63, 255, 2047, 0}[ones]
	least := 4
	for i, low := range []int{0, -63, -255, -2047} {
		if high := []int{0, 64, 256, 2048}[i]; bend >= low && bend <= high {
			least = i
			break
		}
	}
	*ok = *ok && least == ones
	return bend
}

// cutTurn takes a turn and the frame from then on, and is not content where it is told in another way than the plain one.
func cutTurn(text *string, frame string, ok *bool) (int, string) {
	if cutText(text, 1, ok) == "0" {
		return 0, frame
	}
	turn := ""
	if cutText(text, 1, ok) == "0" {
		if frame == "" {
			*ok = false
			return 0, ""
		}
		ahead, between := strings.Index(frame, "1"), strings.Trim(frame, "0")
		turn = strings.Repeat("0", ahead) + cutText(text, len(between), ok)
		turn += strings.Repeat("0", 64-len(turn))
		*ok = *ok && strings.Contains(turn, "1")
		return textNumber(turn), frame
	}
	ahead := textNumber(cutText(text, 6, ok))
	many := textNumber(cutText(text, 6, ok)) + 1
	if ahead+many > 64 {
		*ok = false
		return 0, frame
	}
	between := cutText(text, many, ok)
	turn = strings.Repeat("0", ahead) + between + strings.Repeat("0", 64-ahead-many)
	fresh := strings.Repeat("0", ahead) + strings.Repeat("1", many) + strings.Repeat("0", 64-ahead-many)
	if between[0] != '1' || between[many-1] != '1' {
		*ok = false
	}
	// Where all ones of the old frame cover the new one it should have been taken.
	if frame != "" && textNumber(fresh)&^textNumber(frame) == 0 {
		*ok = false
	}
	return textNumber(turn), fresh
}

// readChunkModel reads noughts and ones strictly, piece by piece.
func readChunkModel(text string) ([]impl.Sample, bool) {
	ok, frame, step := true, "", 0
	count := textNumber(cutText(&text, 8, &ok))
	var out []impl.Sample
	for i := 0; i < count && ok; i++ {
		s := impl.Sample{}
		if i == 0 {
			s.Time = textNumber(cutText(&text, 40, &ok))
			s.Value = textNumber(cutText(&text, 64, &ok))
		} else {
			step += cutBend(&text, &ok)
			s = out[i-1]
			s.Time += step
			var turn int
			turn, frame = cutTurn(&text, frame, &ok)
			s.Value ^= turn
		}
		out = append(out, s)
	}
	if !ok || text != "" || count > 120 || !goodSamplesModel(out) {
		return nil, false
	}
	return out, true
}

// checkPack holds PackChunk of any samples against the model.
func checkPack(t *testing.T, l []impl.Sample) impl.Bits {
	t.Helper()
	arg, kept := guarded(l)
	b := impl.PackChunk(arg)
	want := impl.Bits{}
	if goodSamplesModel(l) && len(l) <= 120 {
		want = textBits(chunkModel(l))
	}
	if !sameBits(b, want) || !kept() {
		t.Fatalf("PackChunk of %v: %v, not %v", l, b, want)
	}
	checkOwn(t, b, arg)
	return b
}

// checkChunk holds all that reads bits against the model, and tells whether they are a chunk.
func checkChunk(t *testing.T, b impl.Bits) bool {
	t.Helper()
	var want []impl.Sample
	ok, count := false, -1
	if impl.GoodBits(b) {
		want, ok = readChunkModel(textOf(b))
		if ok && chunkModel(want) != textOf(b) {
			t.Fatalf("%v is read as %v, of which the chunk is another one", textOf(b), want)
		}
	}
	if ok {
		count = len(want)
	}
	arg, kept := guarded(b)
	l, is := impl.UnpackChunk(arg)
	if is != ok || !slices.Equal(l, want) || impl.CountOf(arg) != count {
		t.Fatalf("%v: %v, %v, %d; not %v, %v", b, l, is, impl.CountOf(arg), want, ok)
	}
	checkOwn(t, l, arg)
	for _, s := range []impl.Sample{{}, {Time: maxTime, Value: 5}, {Time: maxTime + 1}, {Time: -1, Value: 5}, {Time: math.MinInt}, {Time: math.MaxInt}, {Time: 1000, Value: math.MinInt}} {
		checkAppend(t, b, want, ok, s)
	}
	if len(want) > 0 {
		last := want[len(want)-1]
		checkAppend(t, b, want, ok, last)
		checkAppend(t, b, want, ok, impl.Sample{Time: last.Time + 1, Value: last.Value ^ 6})
		checkAppend(t, b, want, ok, impl.Sample{Time: last.Time - 1, Value: last.Value})
	}
	if !kept() {
		t.Fatalf("%v was written into", b)
	}
	return ok
}

func checkAppend(t *testing.T, b impl.Bits, l []impl.Sample, ok bool, s impl.Sample) {
	t.Helper()
	all := append(slices.Clone(l), s)
	want := impl.Bits{}
	if ok && goodSamplesModel(all) && len(all) <= 120 {
		want = textBits(chunkModel(all))
	}
	arg, kept := guarded(b)
	got := impl.AppendChunk(arg, s)
	if !sameBits(got, want) || !kept() {
		t.Fatalf("AppendChunk of %v and %v: %v, not %v", l, s, got, want)
	}
	checkOwn(t, got, arg)
}

// textOf tells good bits in noughts and ones.
func textOf(b impl.Bits) string {
	var out strings.Builder
	for _, x := range b.Data {
		out.WriteString(lowText(int(x), 8))
	}
	return out.String()[:b.Size]
}

// randomSamples are n good samples, of many sorts of Times and Values.
func randomSamples(r *rand.Rand, n int) []impl.Sample {
	steps := []func() int{
		func() int { return 15 },
		func() int { return 1 + r.Intn(3) },
		func() int { return 300 + r.Intn(130) },
		func() int { return []int{15, 15, 15, 78, 79, 142, 270, 271, 272, 2062, 2063, 2064}[r.Intn(12)] },
		func() int { return 1 + r.Intn(1<<r.Intn(24)) },
		func() int { return 1 + r.Intn(maxTime/130) },
	}
	values := []func(v int) int{
		func(v int) int { return v },
		func(v int) int { return v + 1 },
		func(v int) int { return v + r.Intn(200) },
		func(v int) int { return int(r.Uint64()) },
		func(v int) int { return v ^ int(r.Uint64()>>r.Intn(64)<<r.Intn(64)) },
		func(v int) int { return []int{math.MinInt, math.MaxInt, 0, -1, 1}[r.Intn(5)] },
		func(v int) int { return v ^ []int{0, 0, 1 << 63 >> 63, 1 << 20, 3 << 20, math.MinInt}[r.Intn(6)] },
	}
	step, value := steps[r.Intn(len(steps))], values[r.Intn(len(values))]
	mixed := r.Intn(4) == 0
	out := make([]impl.Sample, n)
	s := impl.Sample{Time: r.Intn(1000), Value: edgeValue(r)}
	for i := range out {
		if i > 0 {
			s = impl.Sample{Time: s.Time + step(), Value: value(s.Value)}
		}
		out[i] = s
		if mixed {
			step, value = steps[r.Intn(len(steps))], values[r.Intn(len(values))]
		}
	}
	return out
}

func edgeValue(r *rand.Rand) int {
	return []int{0, 1, -1, math.MinInt, math.MaxInt, r.Intn(1000), int(r.Uint64())}[r.Intn(7)]
}

// steadySamples are n samples of one step and one value.
func steadySamples(n int, from int, step int, value int) []impl.Sample {
	out := make([]impl.Sample, n)
	for i := range out {
		out[i] = impl.Sample{Time: from + i*step, Value: value}
	}
	return out
}

// badSamples are lists of which none is good.
func badSamples() [][]impl.Sample {
	out := [][]impl.Sample{
		steadySamples(2001, 0, 1, 7), steadySamples(1<<16, 0, 1, 7), make([]impl.Sample, 1<<17), steadySamples(2, maxTime, 1, 7), steadySamples(3, 10, -1, 7), steadySamples(2, 10, 0, 7), steadySamples(121, 0, 0, 7),
	}
	for _, times := range [][]int{{-1}, {math.MinInt}, {maxTime + 1}, {math.MaxInt}, {5, 5}, {5, 4}, {0, 0}, {1, 2, 2}, {1, 3, 2}, {-1, 0, 1}, {0, 1, maxTime + 1}, {0, math.MinInt}, {math.MinInt, math.MaxInt}, {maxTime, maxTime}, {1, 5, 3, 7}} {
		var l []impl.Sample
		for i, time := range times {
			l = append(l, impl.Sample{Time: time, Value: i})
		}
		out = append(out, l)
	}
	return out
}

func TestGoodSamples(t *testing.T) {
	r := rand.New(rand.NewSource(61))
	for _, l := range badSamples() {
		arg, kept := guarded(l)
		if impl.GoodSamples(arg) || goodSamplesModel(l) || !kept() {
			t.Errorf("%.5v is good", l)
		}
	}
	good := [][]impl.Sample{nil, {}, {{}}, {{Time: maxTime}}, {{Value: math.MinInt}, {Time: maxTime, Value: math.MaxInt}}, steadySamples(2000, 0, 1, 7), steadySamples(2000, maxTime-1999, 1, math.MinInt)}
	for n := range 200 {
		good = append(good, randomSamples(r, min(n, 120)))
	}
	for _, l := range good {
		arg, kept := guarded(l)
		if !impl.GoodSamples(arg) || !kept() {
			t.Errorf("%v is not good", l)
		}
	}
	for range 2000 {
		l := randomSamples(r, 1+r.Intn(10))
		l[r.Intn(len(l))].Time = []int{-1, 0, l[0].Time, l[len(l)-1].Time, maxTime, maxTime + 1, r.Intn(1000)}[r.Intn(7)]
		if impl.GoodSamples(l) != goodSamplesModel(l) {
			t.Fatalf("%v: %v", l, impl.GoodSamples(l))
		}
	}
}

// Promise 6: a chunk is read as its samples, and grows by one as it is packed at once.
func TestChunkIsReadAsItsSamples(t *testing.T) {
	r := rand.New(rand.NewSource(62))
	for i := range 400 {
		l := randomSamples(r, i%121)
		b := checkPack(t, l)
		back, ok := impl.UnpackChunk(b)
		if !ok || !slices.Equal(back, l) || impl.CountOf(b) != len(l) {
			t.Fatalf("%v is read as %v", l, back)
		}
	}
	for range 25 {
		l := randomSamples(r, 120)
		b := impl.PackChunk(nil)
		for i, s := range l {
			if impl.CountOf(b) != i {
				t.Fatalf("%d samples: %d", i, impl.CountOf(b))
			}
			b = impl.AppendChunk(b, s)
			if !sameBits(b, textBits(chunkModel(l[:i+1]))) {
				t.Fatalf("%v appended", l[:i+1])
			}
		}
	}
}

func TestChunksOfFew(t *testing.T) {
	if b := impl.PackChunk(nil); !sameBits(b, impl.Bits{Data: []byte{0}, Size: 8}) {
		t.Error(b)
	}
	for _, time := range []int{0, 1, 255, 256, maxTime - 1, maxTime} {
		for _, v := range []int{0, 1, -1, math.MinInt, math.MaxInt} {
			b := checkPack(t, []impl.Sample{{Time: time, Value: v}})
			if b.Size != 112 || !checkChunk(t, b) {
				t.Error(time, v, b)
			}
		}
	}
	if !checkChunk(t, impl.PackChunk(nil)) {
		t.Error("the chunk of none is no chunk")
	}
}

// Promise 6: steady samples cost two bits each from the third one on.
func TestSteadySamplesCostTwoBits(t *testing.T) {
	for _, c := range []struct{ step, cost int }{{1, 10}, {15, 10}, {64, 10}, {65, 13}, {256, 13}, {257, 17}, {2048, 17}, {2049, 69}, {maxTime / 120, 69}} {
		for _, v := range []int{0, 7, -1, math.MinInt, math.MaxInt} {
			for n := 2; n <= 120; n++ {
				b := checkPack(t, steadySamples(n, 3, c.step, v))
				if b.Size != 112+c.cost+2*(n-2) {
					t.Fatalf("%d samples, step %d: %d bits", n, c.step, b.Size)
				}
			}
		}
	}
}

// Each class of bends at both edges, and one past each of them.
func TestBendsAtTheEdgesOfClasses(t *testing.T) {
	for _, c := range []struct {
		bend int
		text string
	}{
		{0, "0"},
		{-1, "100111110"}, {1, "101000000"}, {-63, "100000000"}, {64, "101111111"}, {63, "101111110"}, {-62, "100000001"},
		{-64, "110" + "010111111"}, {65, "110" + "101000000"}, {-255, "110" + "000000000"}, {256, "110" + "111111111"},
		{-256, "1110" + "011011111111"}, {257, "1110" + "100100000000"}, {-2047, "1110" + "000000000000"}, {2048, "1110" + "111111111111"},
		{-2048, "1111" + strings.Repeat("1", 53) + strings.Repeat("0", 11)}, {2049, "1111" + strings.Repeat("0", 52) + "100000000001"},
	} {
		for _, step := range []int{2050, 5000, maxTime / 3} {
			for _, from := range []int{0, 77} {
				l := []impl.Sample{{Time: from, Value: 5}, {Time: from + step, Value: 5}, {Time: from + 2*step + c.bend, Value: 5}}
				b := checkPack(t, l)
				want := lowText(3, 8) + lowText(from, 40) + lowText(5, 64) + bendText(step) + "0" + c.text + "0"
				if !sameBits(b, textBits(want)) || !checkChunk(t, b) {
					t.Errorf("bend %d behind a step of %d: %v", c.bend, step, b)
				}
			}
		}
		if c.bend > 0 {
			l := []impl.Sample{{Time: 9, Value: 5}, {Time: 9 + c.bend, Value: 5}}
			if b := checkPack(t, l); !sameBits(b, textBits(lowText(2, 8)+lowText(9, 40)+lowText(5, 64)+c.text+"0")) || !checkChunk(t, b) {
				t.Errorf("a first step of %d: %v", c.bend, b)
			}
		}
	}
}

// The greatest and the least bends that times allow, and those near them.
func TestBendsThatAreVeryGreat(t *testing.T) {
	for _, times := range [][]int{{0, maxTime}, {0, 1, maxTime}, {0, maxTime - 1, maxTime}, {0, 1, 2, maxTime}, {0, maxTime - 2, maxTime - 1, maxTime}, {0, maxTime / 2, maxTime}, {0, 1, maxTime - 1, maxTime}} {
		var l []impl.Sample
		for i, time := range times {
			l = append(l, impl.Sample{Time: time, Value: i})
		}
		b := checkPack(t, l)
		if back, ok := impl.UnpackChunk(b); !ok || !slices.Equal(back, l) || !checkChunk(t, b) {
			t.Errorf("%d: %v", times, back)
		}
	}
	for _, c := range []struct{ mid, bend int }{{1, maxTime - 2}, {maxTime - 1, 2 - maxTime}} {
		b := impl.PackChunk([]impl.Sample{{Time: 0}, {Time: c.mid}, {Time: maxTime}})
		want := lowText(3, 8) + strings.Repeat("0", 104) + bendText(c.mid) + "0" + "1111" + lowText(c.bend, 64) + "0"
		if !sameBits(b, textBits(want)) {
			t.Errorf("bend %d: %v", c.bend, b)
		}
	}
}

// valuesChunk has steady samples of values, so that behind the third one each costs a bit for its time.
func valuesChunk(values ...int) []impl.Sample {
	l := steadySamples(len(values), 0, 10, 0)
	for i, v := range values {
		l[i].Value = v
	}
	return l
}

// turnsOf are values, the first 0, that turn by these.
func turnsOf(turns ...int) []int {
	out := []int{0}
	for _, x := range turns {
		out = append(out, out[len(out)-1]^x)
	}
	return out
}

func TestFramesOfTurns(t *testing.T) {
	first := math.MinInt
	ones := strings.Repeat("1", 64)
	noughts := func(n int) string { return strings.Repeat("0", n) }
	for _, c := range []struct {
		name  string
		turns []int
		texts []string
	}{
		{"no turn at all", []int{0, 0}, []string{"0", "0"}},
		{"the first turn", []int{0b1010}, []string{"11" + lowText(60, 6) + lowText(2, 6) + "101"}},
		{"a turn of 0 is no frame", []int{0, 1}, []string{"0", "11" + lowText(63, 6) + lowText(0, 6) + "1"}},
		{"a turn of 0 leaves the frame", []int{0b1110, 0, 0b1010}, []string{"11" + lowText(60, 6) + lowText(2, 6) + "111", "0", "10" + "101"}},
		{"just as many zeros", []int{0b10010, 0b11110}, []string{"11" + lowText(59, 6) + lowText(3, 6) + "1001", "10" + "1111"}},
		{"more zeros of both", []int{0b10010, 0b00100}, []string{"11" + lowText(59, 6) + lowText(3, 6) + "1001", "10" + "0010"}},
		{"more ahead, as many behind", []int{0b10010, 0b00110}, []string{"11" + lowText(59, 6) + lowText(3, 6) + "1001", "10" + "0011"}},
		{"as many ahead, more behind", []int{0b10010, 0b11000}, []string{"11" + lowText(59, 6) + lowText(3, 6) + "1001", "10" + "1100"}},
		{"one fewer ahead", []int{0b10010, 0b110010}, []string{"11" + lowText(59, 6) + lowText(3, 6) + "1001", "11" + lowText(58, 6) + lowText(4, 6) + "11001"}},
		{"one fewer behind", []int{0b10010, 0b10011}, []string{"11" + lowText(59, 6) + lowText(3, 6) + "1001", "11" + lowText(59, 6) + lowText(4, 6) + "10011"}},
		{"fewer ahead, more behind", []int{0b10010, 0b100000}, []string{"11" + lowText(59, 6) + lowText(3, 6) + "1001", "11" + lowText(58, 6) + lowText(0, 6) + "1"}},
		{"more ahead, fewer behind", []int{0b10010, 0b1}, []string{"11" + lowText(59, 6) + lowText(3, 6) + "1001", "11" + lowText(63, 6) + lowText(0, 6) + "1"}},
		{"a frame taken anew counts", []int{0b10010, 0b1, 0b10, 0b1, 0b11, 0b1}, []string{
			"11" + lowText(59, 6) + lowText(3, 6) + "1001", "11" + lowText(63, 6) + lowText(0, 6) + "1", "11" + lowText(62, 6) + lowText(0, 6) + "1", "11" + lowText(63, 6) + lowText(0, 6) + "1", "11" + lowText(62, 6) + lowText(1, 6) + "11", "10" + "01",
		}},
		{"a 1 in the first bit", []int{first, first}, []string{"11" + lowText(0, 6) + lowText(0, 6) + "1", "10" + "1"}},
		{"a 1 in the last bit", []int{1, 1}, []string{"11" + lowText(63, 6) + lowText(0, 6) + "1", "10" + "1"}},
		{"a 1 in both", []int{first + 1, 1, first, 4}, []string{"11" + lowText(0, 6) + lowText(63, 6) + "1" + noughts(62) + "1", "10" + noughts(63) + "1", "10" + "1" + noughts(63), "10" + noughts(61) + "100"}},
		{"all ones", []int{-1, -1}, []string{"11" + lowText(0, 6) + lowText(63, 6) + ones, "10" + ones}},
		{"the greatest int", []int{math.MaxInt, first}, []string{"11" + lowText(1, 6) + lowText(62, 6) + ones[:63], "11" + lowText(0, 6) + lowText(0, 6) + "1"}},
	} {
		l := valuesChunk(turnsOf(c.turns...)...)
		want := lowText(len(l), 8) + strings.Repeat("0", 104)
		for i, text := range c.texts {
			want += []string{bendText(10), "0"}[min(i, 1)] + text
		}
		if b := checkPack(t, l); !sameBits(b, textBits(want)) || !checkChunk(t, b) {
			t.Errorf("%s: %v, not %v", c.name, textOf(b), want)
		}
	}
	for _, values := range [][]int{{first, math.MaxInt, first}, {math.MaxInt, first}, {first, first, 0, math.MaxInt, -1}, {-1, 0, -1}, {1, -1, first + 1}} {
		l := valuesChunk(values...)
		b := checkPack(t, l)
		if back, ok := impl.UnpackChunk(b); !ok || !slices.Equal(back, l) {
			t.Errorf("%d are read as %v", values, back)
		}
	}
}

// Every frame there is, and turns that reach just to its edges and one past them.
func TestEveryFrame(t *testing.T) {
	for ahead := range 64 {
		for many := 1; ahead+many <= 64; many++ {
			high, low := 1<<(63-ahead), 1<<(64-ahead-many)
			turns := []int{high | low, high, low, high | low}
			if ahead > 0 {
				turns = append(turns, high<<1)
			}
			turns = append(turns, high|low)
			if ahead+many < 64 {
				turns = append(turns, low>>1, high|low)
			}
			l := valuesChunk(turnsOf(turns...)...)
			b := checkPack(t, l)
			if back, ok := impl.UnpackChunk(b); !ok || !slices.Equal(back, l) {
				t.Fatalf("%d ahead, %d between: %v", ahead, many, back)
			}
		}
	}
}

func TestPackChunkAtItsLimits(t *testing.T) {
	r := rand.New(rand.NewSource(63))
	for _, n := range []int{119, 120, 121, 2000, 2001} {
		b := checkPack(t, steadySamples(n, 0, 5, 1))
		if (b.Size > 0) != (n <= 120) {
			t.Errorf("%d samples: %d bits", n, b.Size)
		}
	}
	for _, l := range badSamples() {
		checkPack(t, l)
	}
	for range 500 {
		l := randomSamples(r, 1+r.Intn(8))
		l[r.Intn(len(l))].Time = []int{-1, 0, l[0].Time, l[len(l)-1].Time, maxTime, maxTime + 1}[r.Intn(6)]
		checkPack(t, l)
	}
	full := steadySamples(120, 0, 5, 1)
	b := impl.PackChunk(full)
	if got := impl.AppendChunk(b, impl.Sample{Time: 1000}); !zeroBits(got) {
		t.Error("121 samples:", got)
	}
	if got := impl.AppendChunk(impl.PackChunk(full[:119]), full[119]); !sameBits(got, b) {
		t.Error("120 samples:", got)
	}
	for _, time := range []int{591, 590, 589, 0, -1, maxTime, maxTime + 1, math.MinInt, math.MaxInt} {
		got := impl.AppendChunk(impl.PackChunk(full[:119]), impl.Sample{Time: time, Value: 1})
		if zeroBits(got) != (time <= 590 || time > maxTime) {
			t.Error(time, got)
		}
	}
}

// Bits that are no chunk, each for a reason of its own, beside the chunk that is near to it.
func TestBitsThatAreNoChunk(t *testing.T) {
	head := func(count int) string { return lowText(count, 8) + lowText(100, 40) + lowText(5, 64) }
	step10 := bendText(10)
	for _, c := range []struct {
		name  string
		text  string
		chunk bool
	}{
		{"nothing", "", false},
		{"seven bits", "0000000", false},
		{"none", lowText(0, 8), true},
		{"none, and a bit more", lowText(0, 8) + "0", false},
		{"none, and a byte more", lowText(0, 8) + lowText(0, 8), false},
		{"one that is not there", lowText(1, 8), false},
		{"one", head(1), true},
		{"one, cut by a bit", head(1)[:111], false},
		{"one, and a bit more", head(1) + "0", false},
		{"one, and 1 more", head(1) + "1", false},
		{"one that is told as none", head(0), false},
		{"two that is told as one", head(1) + step10 + "0", false},
		{"two", head(2) + step10 + "0", true},
		{"two without the turn", head(2) + step10, false},
		{"two that are told as three", head(3) + step10 + "0", false},
		{"the greatest time", lowText(1, 8) + lowText(maxTime, 40) + lowText(5, 64), true},
		{"a time too great", lowText(1, 8) + lowText(maxTime+1, 40) + lowText(5, 64), false},
		{"the greatest that 40 bits tell", lowText(1, 8) + lowText(-1, 40) + lowText(5, 64), false},
		{"the greatest time behind one", head(2) + bendText(maxTime-100) + "0", true},
		{"a time too great behind one", head(2) + bendText(maxTime-99) + "0", false},
		{"the same time", head(2) + "0" + "0", false},
		{"a time below", head(2) + bendText(-1) + "0", false},
		{"a time below 0", head(2) + bendText(-101) + "0", false},
		{"the least bend", head(2) + bendText(math.MinInt) + "0", false},
		{"the greatest bend", head(2) + bendText(math.MaxInt) + "0", false},
		{"a time that stands still behind a step", head(3) + step10 + "0" + bendText(-10) + "0", false},
		{"a time below behind a step", head(3) + step10 + "0" + bendText(-11) + "0", false},
		{"a time above behind a step", head(3) + step10 + "0" + bendText(-9) + "0", true},
		{"steps that wrap round", head(3) + bendText(math.MaxInt) + "0" + bendText(math.MaxInt) + "0", false},
		{"a bend of 0 in 7 bits", head(3) + step10 + "0" + "10" + lowText(63, 7) + "0", false},
		{"a bend of 0 in 9 bits", head(3) + step10 + "0" + "110" + lowText(255, 9) + "0", false},
		{"a bend of 0 in 12 bits", head(3) + step10 + "0" + "1110" + lowText(2047, 12) + "0", false},
		{"a bend of 0 in 64 bits", head(3) + step10 + "0" + "1111" + lowText(0, 64) + "0", false},
		{"a bend of 64 in 9 bits", head(2) + "110" + lowText(64+255, 9) + "0", false},
		{"a bend of 65 in 9 bits", head(2) + "110" + lowText(65+255, 9) + "0", true},
		{"a bend of 1 in 12 bits", head(2) + "1110" + lowText(1+2047, 12) + "0", false},
		{"a bend of 64 in 12 bits", head(2) + "1110" + lowText(64+2047, 12) + "0", false},
		{"a bend of 256 in 12 bits", head(2) + "1110" + lowText(256+2047, 12) + "0", false},
		{"a bend of 257 in 12 bits", head(2) + "1110" + lowText(257+2047, 12) + "0", true},
		{"a bend of 1 in 64 bits", head(2) + "1111" + lowText(1, 64) + "0", false},
		{"a bend of 2048 in 64 bits", head(2) + "1111" + lowText(2048, 64) + "0", false},
		{"a bend of 2049 in 64 bits", head(2) + "1111" + lowText(2049, 64) + "0", true},
		{"a turn", head(2) + step10 + newFrameText(lowText(6, 64)), true},
		{"a turn, cut by a bit", head(2) + step10 + newFrameText(lowText(6, 64))[:15], false},
		{"a turn, and a bit more", head(2) + step10 + newFrameText(lowText(6, 64)) + "0", false},
		{"an old frame where there is none", head(2) + step10 + "10", false},
		{"an old frame where there is none, and a bit", head(2) + step10 + "101", false},
		{"a new frame with a zero at its end", head(2) + step10 + "11" + lowText(60, 6) + lowText(1, 6) + "10", false},
		{"a new frame with a zero at its front", head(2) + step10 + "11" + lowText(60, 6) + lowText(1, 6) + "01", false},
		{"a new frame of zeros alone", head(2) + step10 + "11" + lowText(60, 6) + lowText(1, 6) + "00", false},
		{"a new frame of one zero", head(2) + step10 + "11" + lowText(63, 6) + lowText(0, 6) + "0", false},
		{"a frame of just 64 bits", head(2) + step10 + "11" + lowText(0, 6) + lowText(63, 6) + "1" + lowText(1, 63), true},
		{"a frame of just 64 bits with its zeros", head(2) + step10 + "11" + lowText(60, 6) + lowText(3, 6) + "1001", true},
		{"a frame of 65 bits", head(2) + step10 + "11" + lowText(61, 6) + lowText(3, 6) + "1001", false},
		{"a frame of 65 bits from the second on", head(2) + step10 + "11" + lowText(1, 6) + lowText(63, 6) + "1" + lowText(1, 63), false},
		{"a frame of 127 bits", head(2) + step10 + "11" + lowText(63, 6) + lowText(63, 6) + "1" + lowText(1, 63), false},
		{"a frame of 65 bits, that are not there", head(2) + step10 + "11" + lowText(63, 6) + lowText(1, 6), false},
		{"the old frame", head(3) + step10 + newFrameText(lowText(6, 64)) + "0" + "10" + "01", true},
		{"a new frame where the old one would do", head(3) + step10 + newFrameText(lowText(6, 64)) + "0" + newFrameText(lowText(2, 64)), false},
		{"the same frame told anew", head(3) + step10 + newFrameText(lowText(6, 64)) + "0" + newFrameText(lowText(6, 64)), false},
		{"a new frame that is needed", head(3) + step10 + newFrameText(lowText(6, 64)) + "0" + newFrameText(lowText(1, 64)), true},
		{"the old frame with a turn of 0", head(3) + step10 + newFrameText(lowText(6, 64)) + "0" + "10" + "00", false},
		{"a frame ahead of the last one", head(4) + step10 + newFrameText(lowText(6, 64)) + "0" + newFrameText(lowText(1, 64)) + "0" + "10" + "01", false},
		{"the last frame", head(4) + step10 + newFrameText(lowText(6, 64)) + "0" + newFrameText(lowText(1, 64)) + "0" + "10" + "1", true},
		{"120 samples", head(120) + step10 + "0" + strings.Repeat("00", 118), true},
		{"121 samples", head(121) + step10 + "0" + strings.Repeat("00", 119), false},
		{"255 samples", head(255) + step10 + "0" + strings.Repeat("00", 253), false},
		{"many bits behind", head(1) + strings.Repeat("0", 80000-112), false},
		{"too many bits", head(1) + strings.Repeat("0", 80001-112), false},
	} {
		if got := checkChunk(t, textBits(c.text)); got != c.chunk {
			t.Errorf("%s: %v", c.name, got)
		}
	}
}

// Bits whose Size and Data do not go together are no chunk, whatever stands in them.
func TestChunksOfBitsThatAreNotGood(t *testing.T) {
	good := impl.PackChunk([]impl.Sample{{Time: 10, Value: 7}, {Time: 20, Value: 7}})
	if good.Size != 122 || !checkChunk(t, good) {
		t.Fatal(good)
	}
	more := append(slices.Clone(good.Data), 0)
	for bit := range 6 {
		data := slices.Clone(good.Data)
		data[len(data)-1] |= 1 << bit
		if checkChunk(t, impl.Bits{Data: data, Size: 122}) {
			t.Error("a 1 behind the last bit:", data)
		}
	}
	for _, b := range []impl.Bits{
		{Data: more, Size: 122}, {Data: good.Data[:15], Size: 122}, {Data: nil, Size: 122}, {Data: good.Data, Size: 0}, {Data: good.Data, Size: -1}, {Data: good.Data, Size: 120}, {Data: good.Data, Size: 121}, {Data: good.Data, Size: 128}, {Data: good.Data, Size: 129},
		{Data: good.Data, Size: math.MinInt}, {Data: good.Data, Size: math.MaxInt}, {Data: nil, Size: math.MaxInt}, {Data: nil, Size: -8}, {Data: []byte{0}, Size: 0}, {Data: nil, Size: 8}, {Data: []byte{0}, Size: 7}, {Data: []byte{0, 0}, Size: 8}, {Data: make([]byte, 1<<20), Size: 8 << 20}, {Data: make([]byte, 1<<20), Size: 8},
	} {
		if checkChunk(t, b) {
			t.Errorf("%d bytes, size %d: a chunk", len(b.Data), b.Size)
		}
	}
}

// What is near to a chunk is read as the model reads it: each bit turned, left out, put in, or the rest cut off.
func TestBitsNearToChunks(t *testing.T) {
	r := rand.New(rand.NewSource(64))
	chunks := 0
	for i := range 30 {
		text := chunkModel(randomSamples(r, i%7))
		for at := range len(text) {
			turned := text[:at] + string('0'+'1'-rune(text[at])) + text[at+1:]
			for _, near := range []string{turned, text[:at], text[:at] + text[at+1:], text[:at] + "1" + text[at:], text[:at] + "0" + text[at:]} {
				if checkChunk(t, textBits(near)) {
					chunks++
				}
			}
		}
	}
	if chunks < 1000 {
		t.Errorf("just %d chunks among them", chunks)
	}
	for range 3000 {
		b := textBits(lowText(r.Intn(6), 8) + lowText(r.Intn(1000), 40) + randomText(r, 64+r.Intn(60)))
		checkChunk(t, b)
	}
}

// mergeSamplesModel tells all samples of both, a's laid over b's.
func mergeSamplesModel(a []impl.Sample, b []impl.Sample) []impl.Sample {
	if !goodSamplesModel(a) || !goodSamplesModel(b) {
		return nil
	}
	at := map[int]int{}
	for _, s := range b {
		at[s.Time] = s.Value
	}
	for _, s := range a {
		at[s.Time] = s.Value
	}
	var out []impl.Sample
	for time, v := range at {
		out = append(out, impl.Sample{Time: time, Value: v})
	}
	sort.Slice(out, func(i, j int) bool { return out[i].Time < out[j].Time })
	if len(out) > 2000 {
		return nil
	}
	return out
}

func checkMerge(t *testing.T, a []impl.Sample, b []impl.Sample) []impl.Sample {
	t.Helper()
	x, xKept := guarded(a)
	y, yKept := guarded(b)
	got := impl.MergeSamples(x, y)
	if want := mergeSamplesModel(a, b); !slices.Equal(got, want) || !xKept() || !yKept() {
		t.Fatalf("MergeSamples of %.20v and %.20v: %.20v, not %.20v", a, b, got, want)
	}
	checkOwn(t, got, x, y)
	return got
}

func timesOf(l []impl.Sample) []int {
	var out []int
	for _, s := range l {
		out = append(out, s.Time)
	}
	return out
}

// nearSamples are good samples with few Times, so that many lists share some.
func nearSamples(r *rand.Rand, most int) []impl.Sample {
	var out []impl.Sample
	for time := range most {
		if r.Intn(2) == 0 {
			out = append(out, impl.Sample{Time: time, Value: edgeValue(r)})
		}
	}
	return out
}

func TestMergedSamples(t *testing.T) {
	r := rand.New(rand.NewSource(65))
	for range 2000 {
		a, b := nearSamples(r, r.Intn(12)), nearSamples(r, r.Intn(12))
		checkMerge(t, a, b)
		if got := checkMerge(t, a, a); !slices.Equal(got, a) {
			t.Fatalf("%v with itself: %v", a, got)
		}
	}
	for range 100 {
		checkMerge(t, randomSamples(r, r.Intn(50)), randomSamples(r, r.Intn(50)))
	}
	a, b := steadySamples(5, 0, 10, 1), steadySamples(5, 0, 10, 2)
	if got := checkMerge(t, a, b); !slices.Equal(got, a) {
		t.Errorf("a does not count: %v", got)
	}
	for _, l := range [][]impl.Sample{nil, {}, a, {{Time: maxTime, Value: math.MinInt}}, {{Time: 0, Value: impl.StaleMark}}} {
		if !slices.Equal(checkMerge(t, l, nil), l) || !slices.Equal(checkMerge(t, []impl.Sample{}, l), l) {
			t.Errorf("%v beside none", l)
		}
	}
}

// Promise 6: three lists merged in any order have the same Times.
func TestMergingDoesNotHangOnTheOrderOfThree(t *testing.T) {
	r := rand.New(rand.NewSource(66))
	for range 500 {
		l := [][]impl.Sample{nearSamples(r, r.Intn(20)), nearSamples(r, r.Intn(20)), nearSamples(r, r.Intn(20))}
		want := timesOf(impl.MergeSamples(impl.MergeSamples(l[0], l[1]), l[2]))
		for _, p := range [][3]int{{0, 1, 2}, {0, 2, 1}, {1, 0, 2}, {1, 2, 0}, {2, 0, 1}, {2, 1, 0}} {
			left := impl.MergeSamples(impl.MergeSamples(l[p[0]], l[p[1]]), l[p[2]])
			right := impl.MergeSamples(l[p[0]], impl.MergeSamples(l[p[1]], l[p[2]]))
			if !slices.Equal(timesOf(left), want) || !slices.Equal(left, right) {
				t.Fatalf("%v in the order %v: %v and %v", l, p, left, right)
			}
		}
	}
}

func TestMergedSamplesAtTheirLimits(t *testing.T) {
	even, odd := steadySamples(1000, 0, 2, 1), steadySamples(1001, 1, 2, 2)
	if got := checkMerge(t, even, odd[:1000]); len(got) != 2000 {
		t.Errorf("2000 together: %d", len(got))
	}
	if got := checkMerge(t, even, odd); len(got) != 0 {
		t.Errorf("2001 together: %d", len(got))
	}
	all := steadySamples(2000, 0, 1, 5)
	for _, c := range []struct {
		other []impl.Sample
		want  int
	}{{nil, 2000}, {all, 2000}, {all[5:9], 2000}, {[]impl.Sample{{Time: 2000}}, 0}, {[]impl.Sample{{Time: 1999}}, 2000}, {[]impl.Sample{{Time: maxTime}}, 0}, {steadySamples(2000, 1, 1, 5), 0}} {
		if a, b := checkMerge(t, all, c.other), checkMerge(t, c.other, all); len(a) != c.want || len(b) != c.want {
			t.Errorf("all and %d more: %d, %d", len(c.other), len(a), len(b))
		}
	}
	for _, bad := range badSamples() {
		for _, other := range [][]impl.Sample{nil, {{Time: 3, Value: 1}}, all, bad} {
			checkMerge(t, bad, other)
			checkMerge(t, other, bad)
		}
	}
}

func cutModel(l []impl.Sample, from int, to int) []impl.Sample {
	if !goodSamplesModel(l) {
		return nil
	}
	var out []impl.Sample
	for _, s := range l {
		if s.Time >= from && s.Time <= to {
			out = append(out, s)
		}
	}
	return out
}

func TestCutSamples(t *testing.T) {
	r := rand.New(rand.NewSource(67))
	lists := append(badSamples(), nil, []impl.Sample{{Time: 0, Value: 1}}, []impl.Sample{{Time: maxTime, Value: 1}}, steadySamples(2000, 5, 3, 1))
	for range 60 {
		lists = append(lists, nearSamples(r, 12), randomSamples(r, r.Intn(20)))
	}
	for _, l := range lists {
		edges := []int{math.MinInt, -1, 0, 1, 5, 6, 7, 8, maxTime - 1, maxTime, maxTime + 1, math.MaxInt, 6002, 6003}
		if len(l) > 0 {
			mid := l[len(l)/2].Time
			edges = append(edges, mid-1, mid, mid+1, l[len(l)-1].Time, l[len(l)-1].Time+1)
		}
		arg, kept := guarded(l)
		for _, from := range edges {
			for _, to := range edges {
				got := impl.CutSamples(arg, from, to)
				if want := cutModel(l, from, to); !slices.Equal(got, want) {
					t.Fatalf("CutSamples of %.20v, %d to %d: %.20v", l, from, to, got)
				}
				checkOwn(t, got, arg)
				if len(l) > 3000 {
					break
				}
			}
		}
		if !kept() {
			t.Fatalf("%.20v was written into", l)
		}
	}
}

func sampleAtModel(l []impl.Sample, time int, look int) (impl.Sample, bool) {
	if !goodSamplesModel(l) || time < 0 || time > maxTime || look < 0 || look > maxTime {
		return impl.Sample{}, false
	}
	for i := len(l) - 1; i >= 0; i-- {
		if l[i].Time > time {
			continue
		}
		if l[i].Time < time-look || l[i].Value == math.MinInt {
			break
		}
		return l[i], true
	}
	return impl.Sample{}, false
}

func TestSampleAt(t *testing.T) {
	r := rand.New(rand.NewSource(68))
	lists := append(badSamples(), nil, []impl.Sample{{Time: 0, Value: 1}}, []impl.Sample{{Time: maxTime, Value: 1}}, []impl.Sample{{Time: 0, Value: 9}, {Time: maxTime, Value: math.MinInt}}, steadySamples(2000, 5, 3, 1))
	for range 60 {
		lists = append(lists, nearSamples(r, 12), randomSamples(r, r.Intn(20)))
	}
	for _, l := range lists {
		times := []int{math.MinInt, -1, 0, 1, 5, 6, 9, 12, maxTime - 1, maxTime, maxTime + 1, math.MaxInt}
		if len(l) > 0 {
			mid := l[len(l)/2].Time
			times = append(times, mid-1, mid, mid+1, l[len(l)-1].Time, l[len(l)-1].Time+7)
		}
		arg, kept := guarded(l)
		for _, time := range times {
			for _, look := range append([]int{2, 3, 7, time - 5, time - 6}, times...) {
				got, is := impl.SampleAt(arg, time, look)
				if want, ok := sampleAtModel(l, time, look); is != ok || got != want {
					t.Fatalf("SampleAt of %.20v, %d, %d: %v, %v", l, time, look, got, is)
				}
			}
			if len(l) > 3000 {
				break
			}
		}
		if !kept() {
			t.Fatalf("%.20v was written into", l)
		}
	}
}

func TestSampleAtItsEdges(t *testing.T) {
	l := []impl.Sample{{Time: 10, Value: 1}, {Time: 20, Value: 2}, {Time: 30, Value: impl.StaleMark}, {Time: 40, Value: impl.StaleMark + 1}}
	for _, c := range []struct {
		time, look int
		want       impl.Sample
		ok         bool
	}{
		{9, 9, impl.Sample{}, false}, {10, 0, l[0], true}, {11, 0, impl.Sample{}, false}, {11, 1, l[0], true}, {19, 9, l[0], true}, {19, 8, impl.Sample{}, false},
		{20, 0, l[1], true}, {29, 9, l[1], true}, {29, 8, impl.Sample{}, false}, {30, 0, impl.Sample{}, false}, {30, 30, impl.Sample{}, false}, {39, maxTime, impl.Sample{}, false},
		{40, 0, l[3], true}, {maxTime, maxTime, l[3], true}, {maxTime, maxTime - 40, l[3], true}, {maxTime, maxTime - 41, impl.Sample{}, false}, {maxTime + 1, maxTime, impl.Sample{}, false}, {maxTime, maxTime + 1, impl.Sample{}, false}, {-1, 5, impl.Sample{}, false}, {40, -1, impl.Sample{}, false}, {0, 0, impl.Sample{}, false},
		{math.MaxInt, math.MaxInt, impl.Sample{}, false}, {math.MinInt, math.MinInt, impl.Sample{}, false}, {50, math.MinInt, impl.Sample{}, false},
	} {
		if got, ok := impl.SampleAt(l, c.time, c.look); got != c.want || ok != c.ok {
			t.Errorf("at %d, look %d: %v, %v", c.time, c.look, got, ok)
		}
	}
}

// Answers are new memory: what is written into one shows in no other.
func TestAnswersOfChunksAreNew(t *testing.T) {
	l := steadySamples(5, 0, 10, 1)
	b := impl.PackChunk(l)
	first, _ := impl.UnpackChunk(b)
	merged, cut := impl.MergeSamples(l, nil), impl.CutSamples(l, 0, 100)
	more := impl.AppendChunk(b, impl.Sample{Time: 100})
	for _, x := range [][]impl.Sample{first, merged, cut} {
		for i := range x[:cap(x)] {
			x[:cap(x)][i] = impl.Sample{Time: -7}
		}
	}
	for i := range more.Data {
		more.Data[i] = 255
	}
	if again, ok := impl.UnpackChunk(b); !ok || !slices.Equal(again, l) || !slices.Equal(l, steadySamples(5, 0, 10, 1)) {
		t.Error(again, l)
	}
}

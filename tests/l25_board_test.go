package tests

import (
	"math"
	"math/big"
	"math/rand"
	"strconv"
	"testing"

	"loop.example/g00039/impl"
)

// scaledModel tells a size by the greatest of the powers of base that it has one of.
func scaledModel(size *big.Int, base int64, signs ...string) string {
	text := size.String()
	unit := big.NewInt(1)
	for _, sign := range signs {
		unit = new(big.Int).Mul(unit, big.NewInt(base))
		if size.Cmp(unit) >= 0 {
			tenths := new(big.Int).Div(new(big.Int).Mul(size, big.NewInt(10)), unit).String()
			text = tenths[:len(tenths)-1] + "." + tenths[len(tenths)-1:] + sign
		}
	}
	return text
}

func secondsModel(size int) string {
	parts := []int{size / 86400, size / 3600 % 24, size / 60 % 60, size % 60}
	for i, n := range parts {
		if n == 0 {
			continue
		}
		text := strconv.Itoa(n) + "dhms"[i:i+1]
		if i < 3 && parts[i+1] > 0 {
			text += strconv.Itoa(parts[i+1]) + "dhms"[i+1:i+2]
		}
		return text
	}
	return "0s"
}

func unitModel(value int, unit int) string {
	if value == math.MinInt {
		return ""
	}
	sign, size := "", value
	if value < 0 {
		sign, size = "-", -value
	}
	number := big.NewInt(int64(size))
	switch unit {
	case impl.UnitPlain:
		return sign + number.String()
	case impl.UnitBytes:
		return sign + scaledModel(number, 1024, "Ki", "Mi", "Gi", "Ti", "Pi", "Ei")
	case impl.UnitTime:
		return sign + secondsModel(size)
	case impl.UnitShare:
		return sign + strconv.Itoa(size/10) + "." + strconv.Itoa(size%10) + "%"
	case impl.UnitShort:
		return sign + scaledModel(number, 1000, "k", "M", "G", "T", "P", "E")
	}
	return ""
}

func TestTextsOfUnits(t *testing.T) {
	for _, c := range []struct {
		value int
		texts [5]string
	}{
		// Plain, bytes, time, share, short.
		{0, [5]string{"0", "0", "0s", "0.0%", "0"}}, {1, [5]string{"1", "1", "1s", "0.1%", "1"}}, {-1, [5]string{"-1", "-1", "-1s", "-0.1%", "-1"}}, {59, [5]string{"59", "59", "59s", "5.9%", "59"}}, {60, [5]string{"60", "60", "1m", "6.0%", "60"}}, {61, [5]string{"61", "61", "1m1s", "6.1%", "61"}}, {125, [5]string{"125", "125", "2m5s", "12.5%", "125"}}, {999, [5]string{"999", "999", "16m39s", "99.9%", "999"}}, {1000, [5]string{"1000", "1000", "16m40s", "100.0%", "1.0k"}}, {-1000, [5]string{"-1000", "-1000", "-16m40s", "-100.0%", "-1.0k"}}, {1023, [5]string{"1023", "1023", "17m3s", "102.3%", "1.0k"}}, {1024, [5]string{"1024", "1.0Ki", "17m4s", "102.4%", "1.0k"}}, {1536, [5]string{"1536", "1.5Ki", "25m36s", "153.6%", "1.5k"}}, {-1999, [5]string{"-1999", "-1.9Ki", "-33m19s", "-199.9%", "-1.9k"}},
		{3600, [5]string{"3600", "3.5Ki", "1h", "360.0%", "3.6k"}}, {3601, [5]string{"3601", "3.5Ki", "1h", "360.1%", "3.6k"}}, {3660, [5]string{"3660", "3.5Ki", "1h1m", "366.0%", "3.6k"}}, {86399, [5]string{"86399", "84.3Ki", "23h59m", "8639.9%", "86.3k"}}, {86400, [5]string{"86400", "84.3Ki", "1d", "8640.0%", "86.4k"}}, {86461, [5]string{"86461", "84.4Ki", "1d", "8646.1%", "86.4k"}}, {90061, [5]string{"90061", "87.9Ki", "1d1h", "9006.1%", "90.0k"}}, {999999, [5]string{"999999", "976.5Ki", "11d13h", "99999.9%", "999.9k"}}, {1000000, [5]string{"1000000", "976.5Ki", "11d13h", "100000.0%", "1.0M"}}, {1 << 20, [5]string{"1048576", "1.0Mi", "12d3h", "104857.6%", "1.0M"}}, {1<<20 - 1, [5]string{"1048575", "1023.9Ki", "12d3h", "104857.5%", "1.0M"}},
		{math.MaxInt, [5]string{"9223372036854775807", "7.9Ei", "106751991167300d15h", "922337203685477580.7%", "9.2E"}}, {-math.MaxInt, [5]string{"-9223372036854775807", "-7.9Ei", "-106751991167300d15h", "-922337203685477580.7%", "-9.2E"}}, {math.MinInt, [5]string{}},
	} {
		for i, want := range c.texts {
			if got := impl.UnitText(c.value, i+1); got != want || unitModel(c.value, i+1) != want {
				t.Errorf("%d in unit %d: %q, not %q", c.value, i+1, got, want)
			}
		}
	}
	r := rand.New(rand.NewSource(251))
	edges := edgeInts()
	for unit := range 6 {
		for range 3 {
			edges = append(edges, r.Intn(200000)-100000)
		}
		for k := 1; k < math.MaxInt/1000; k *= 1000 {
			edges = append(edges, k-1, k, 2*k-1, 1-k, -k, 999*k)
		}
		for _, value := range edges {
			if got := impl.UnitText(value, unit); got != unitModel(value, unit) {
				t.Errorf("%d in unit %d: %q, not %q", value, unit, got, unitModel(value, unit))
			}
		}
	}
	for _, unit := range []int{0, -1, 6, math.MaxInt, math.MinInt} {
		for _, value := range []int{0, 5, -5, math.MinInt} {
			if got := impl.UnitText(value, unit); got != "" {
				t.Errorf("%d in unit %d: %q", value, unit, got)
			}
		}
	}
}

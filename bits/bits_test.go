package bits

import (
	"math"
	"strings"
	"testing"
)

// numbers are the edges of all widths, and others from a fixed rule, so that each run sees the same.
func numbers() []uint64 {
	l := []uint64{0, 1, math.MaxUint64, 0x0102030405060708, 0x8000000000000001, 0xaaaaaaaaaaaaaaaa}
	for k := range 64 {
		l = append(l, 1<<k, 1<<k-1, 1<<k+1)
	}
	x := uint64(1)
	for range 500 {
		x = x*6364136223846793005 + 1442695040888963407
		l = append(l, x, x>>(x%64))
	}
	return l
}

// turns are places to turn by: all near ones, and the far ends.
func turns() []int {
	l := []int{math.MinInt, math.MinInt + 1, -1 << 40, 1 << 40, 1<<40 + 5, math.MaxInt - 1, math.MaxInt}
	for k := -100; k <= 100; k++ {
		l = append(l, k)
	}
	return l
}

// texts have every length up to 20, and bytes that are unlike each other.
func texts() []string {
	var l []string
	for n := range 21 {
		b := make([]byte, n)
		for i := range b {
			b[i] = byte(37*i + 101*n + 128)
		}
		l = append(l, string(b), strings.Repeat("\xff", n), strings.Repeat("\x00", n))
	}
	return l
}

// ints are all numbers as they stand in an int, those below 0 too.
func ints() []int {
	l := []int{math.MinInt, math.MinInt + 1, -1, 0, 1, math.MaxInt}
	for _, n := range numbers() {
		l = append(l, int(n), -int(n))
	}
	return l
}

func TestPutExamples(t *testing.T) {
	for _, c := range []struct {
		n    uint64
		size int
		want string
	}{
		{258, 3, "\x00\x01\x02"},
		{1, 9, ""},
		{0, 1, "\x00"},
		{0, 8, "\x00\x00\x00\x00\x00\x00\x00\x00"},
		{0x0102030405060708, 1, "\x08"},
		{0x0102030405060708, 4, "\x05\x06\x07\x08"},
		{0x0102030405060708, 7, "\x02\x03\x04\x05\x06\x07\x08"},
		{0x0102030405060708, 8, "\x01\x02\x03\x04\x05\x06\x07\x08"},
		{math.MaxUint64, 8, "\xff\xff\xff\xff\xff\xff\xff\xff"},
	} {
		if got := Put(c.n, c.size); got != c.want {
			t.Errorf("Put(%d, %d) = %q, not %q", c.n, c.size, got, c.want)
		}
	}
}

func TestPutOfNoSize(t *testing.T) {
	for _, size := range []int{math.MinInt, -8, -1, 0, 9, 10, 64, 256 + 1, 1<<32 + 1, math.MaxInt} {
		if got := Put(0x0102030405060708, size); got != "" {
			t.Errorf("size %d: %q", size, got)
		}
	}
}

func TestPutBytes(t *testing.T) {
	for _, n := range numbers() {
		for size := 1; size <= 8; size++ {
			got := Put(n, size)
			if len(got) != size {
				t.Fatalf("Put(%d, %d) has %d bytes", n, size, len(got))
			}
			rest := n
			for i := size - 1; i >= 0; i-- {
				if uint64(got[i]) != rest%256 {
					t.Fatalf("Put(%d, %d) = %q", n, size, got)
				}
				rest /= 256
			}
		}
	}
}

func TestGetExamples(t *testing.T) {
	for s, want := range map[string]uint64{
		"":                                     0,
		"\x00":                                 0,
		"\xff":                                 255,
		"\x01\x02":                             258,
		"\x01\x02\x03\x04\x05\x06\x07":         0x01020304050607,
		"\x01\x02\x03\x04\x05\x06\x07\x08":     0x0102030405060708,
		"\x01\x02\x03\x04\x05\x06\x07\x08\x09": 0x0102030405060708,
		"\x00\x00\x00\x00\x00\x00\x01\x00\xff": 256,
		"\xff\xff\xff\xff\xff\xff\xff\xff\x00": math.MaxUint64,
		"\u20ac":                               0xe282ac,
	} {
		if got := Get(s); got != want {
			t.Errorf("Get(%q) = %d, not %d", s, got, want)
		}
	}
}

func TestGetTakesTheFirstEight(t *testing.T) {
	for _, s := range texts() {
		var want uint64
		for i := 0; i < len(s) && i < 8; i++ {
			want = want*256 + uint64(s[i])
		}
		if got := Get(s); got != want {
			t.Errorf("Get(%q) = %d, not %d", s, got, want)
		}
	}
	if got := Get("\x00\x00\x00\x00\x00\x00\x01\x02" + strings.Repeat("x", 1<<20)); got != 258 {
		t.Errorf("a long text: %d", got)
	}
}

func TestTurnExamples(t *testing.T) {
	for _, c := range []struct {
		x           uint32
		k           int
		left, right uint32
	}{
		{0x80000001, 1, 3, 0xc0000000},
		{1, -1, 0x80000000, 2},
		{1, 33, 2, 0x80000000},
		{1, -33, 0x80000000, 2},
		{1, 0, 1, 1},
		{1, 31, 0x80000000, 2},
		{1, 32, 1, 1},
		{1, -32, 1, 1},
		{0x12345678, 8, 0x34567812, 0x78123456},
		{0x12345678, -8, 0x78123456, 0x34567812},
		{0x12345678, math.MinInt, 0x12345678, 0x12345678},
		{0x12345678, math.MinInt + 4, 0x23456781, 0x81234567},
		{0x12345678, math.MaxInt, 0x091a2b3c, 0x2468acf0},
		{0, 7, 0, 0},
		{math.MaxUint32, 7, math.MaxUint32, math.MaxUint32},
	} {
		if got := Left(c.x, c.k); got != c.left {
			t.Errorf("Left(%x, %d) = %x, not %x", c.x, c.k, got, c.left)
		}
		if got := Right(c.x, c.k); got != c.right {
			t.Errorf("Right(%x, %d) = %x, not %x", c.x, c.k, got, c.right)
		}
	}
}

// placed is x with each bit carried by hand to the place k above its own, round the end.
func placed(x uint32, k int) uint32 {
	var y uint32
	for i := range 32 {
		if x&(1<<i) != 0 {
			y |= 1 << ((i + k%32 + 32) % 32)
		}
	}
	return y
}

func TestTurnCarriesEveryBit(t *testing.T) {
	for _, n := range numbers() {
		x := uint32(n)
		for _, k := range turns() {
			if got, want := Left(x, k), placed(x, k); got != want {
				t.Fatalf("Left(%x, %d) = %x, not %x", x, k, got, want)
			}
			if got, want := Right(x, k), placed(x, -(k%32)); got != want {
				t.Fatalf("Right(%x, %d) = %x, not %x", x, k, got, want)
			}
		}
	}
}

func TestOnesExamples(t *testing.T) {
	for n, want := range map[int]int{7: 3, 8: 1, 0: 0, 1: 1, -1: 0, -7: 0, math.MinInt: 0, math.MaxInt: 63, 1 << 62: 1, 0x1248: 4} {
		if got := Ones(n); got != want {
			t.Errorf("Ones(%d) = %d, not %d", n, got, want)
		}
	}
}

func TestOnesCounts(t *testing.T) {
	for _, n := range ints() {
		want := 0
		for rest := n; rest > 0; rest /= 2 {
			want += rest % 2
		}
		if got := Ones(n); got != want {
			t.Errorf("Ones(%d) = %d, not %d", n, got, want)
		}
	}
}

func TestLogExamples(t *testing.T) {
	for n, want := range map[int]int{8: 3, 7: 2, 9: 3, 1: 0, 2: 1, 3: 1, 0: -1, -1: -1, -8: -1, math.MinInt: -1, math.MaxInt: 62, 1 << 62: 62, 1<<62 - 1: 61, 1 << 32: 32, 1<<32 - 1: 31} {
		if got := Log(n); got != want {
			t.Errorf("Log(%d) = %d, not %d", n, got, want)
		}
	}
}

func TestLogIsTheGreatest(t *testing.T) {
	for _, n := range ints() {
		want := -1
		for rest := n; rest > 0; rest /= 2 {
			want++
		}
		if got := Log(n); got != want {
			t.Errorf("Log(%d) = %d, not %d", n, got, want)
		}
	}
}

func TestBitExamples(t *testing.T) {
	for _, c := range []struct {
		s    string
		i    int
		want int
	}{
		{"\x40", 1, 1}, {"\x40", 0, 0}, {"\x40", 8, 0},
		{"\x80", 0, 1}, {"\x01", 7, 1}, {"\x00\x80", 8, 1}, {"\x00\x01", 15, 1}, {"\x00\x80", 0, 0},
		{"\xff\xff", 15, 1}, {"\xff\xff", 16, 0}, {"", 0, 0}, {"", -1, 0}, {"", 7, 0},
	} {
		if got := Bit(c.s, c.i); got != c.want {
			t.Errorf("Bit(%q, %d) = %d, not %d", c.s, c.i, got, c.want)
		}
	}
}

func TestBitOfNoPlace(t *testing.T) {
	for _, s := range texts() {
		for _, i := range []int{math.MinInt, math.MinInt + 1, -64, -9, -8, -7, -1, 8 * len(s), 8*len(s) + 1, 8*len(s) + 7, 8*len(s) + 8, 1 << 32, math.MaxInt - 7, math.MaxInt} {
			if got := Bit(s, i); got != 0 {
				t.Errorf("Bit(%q, %d) = %d", s, i, got)
			}
		}
	}
}

func TestBitsOfBytes(t *testing.T) {
	for _, s := range texts() {
		for at := range len(s) {
			sum := 0
			for k := range 8 {
				b := Bit(s, 8*at+k)
				if b != 0 && b != 1 {
					t.Fatalf("Bit(%q, %d) = %d", s, 8*at+k, b)
				}
				sum = 2*sum + b
			}
			if sum != int(s[at]) {
				t.Errorf("%q: the bits of byte %d are %d", s, at, sum)
			}
		}
	}
}

func TestPutIsGot(t *testing.T) {
	for _, n := range numbers() {
		for size := 1; size <= 8; size++ {
			want := n << (64 - 8*size) >> (64 - 8*size)
			if got := Get(Put(n, size)); got != want {
				t.Errorf("%d in %d bytes: got %d", n, size, got)
			}
		}
	}
	for _, s := range texts() {
		if len(s) > 0 && len(s) <= 8 && Put(Get(s), len(s)) != s {
			t.Errorf("%q: put %q", s, Put(Get(s), len(s)))
		}
	}
}

func TestTurnedBack(t *testing.T) {
	for _, n := range numbers() {
		x := uint32(n)
		for _, k := range turns() {
			if Right(Left(x, k), k) != x || Left(Right(x, k), k) != x {
				t.Fatalf("%x is not the same, turned by %d and back", x, k)
			}
			if Left(Left(x, k), -k) != x || Right(Right(x, k), -k) != x {
				t.Fatalf("%x is not the same, turned by %d and by its negative", x, k)
			}
		}
	}
}

func TestTurnedByBoth(t *testing.T) {
	for _, x := range []uint32{0, 1, 0x80000001, 0x12345678, math.MaxUint32} {
		for _, k := range turns() {
			for _, m := range turns() {
				both := k%32 + m%32 // the whole sum may be beyond an int
				if Left(Left(x, k), m) != Left(x, both) || Right(Right(x, k), m) != Right(x, both) {
					t.Fatalf("%x: turned by %d and %d", x, k, m)
				}
			}
		}
	}
}

func TestPowerOfLog(t *testing.T) {
	for _, n := range ints() {
		if n < 1 {
			continue
		}
		p := 1 << Log(n)
		if Ones(p) != 1 || p > n || p <= n/2 {
			t.Errorf("%d: 2 to its Log is %d", n, p)
		}
	}
}

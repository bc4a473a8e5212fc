package codec

import (
	"fmt"
	"math"
	"math/big"
	"slices"
	"strings"
	"testing"

	"speculum/api"
)

// behinds are bytes that may stand behind what is read.
var behinds = []string{"", "x", "\x00", "\x80", "\xff", "\x7f\x80", "\x01a", strings.Repeat("\x00", 32), strings.Repeat("\xff", 70), "größe"}

// greatest is the greatest number that is read.
const greatest = math.MaxUint64

// digits are a number's bytes, worked out by its text of zeros and ones.
func digits(n *big.Int) string {
	text := n.Text(2)
	text = strings.Repeat("0", (7-len(text)%7)%7) + text
	var b []byte
	for i := 0; i < len(text); i += 7 {
		var c byte
		fmt.Sscanf(text[i:i+7], "%b", &c)
		if i+7 < len(text) {
			c += 128
		}
		b = append(b, c)
	}
	return string(b)
}

// bytesOf are a number's, worked out so.
func bytesOf(n uint64) string { return digits(new(big.Int).SetUint64(n)) }

// numbers are those round each place of a bit, and others.
func numbers() []uint64 {
	l := []uint64{300, 1000000, 0x0123456789abcdef, 0xfedcba9876543210, 0x5555555555555555, 0xaaaaaaaaaaaaaaaa, greatest - 1, greatest}
	for k := range 64 {
		l = append(l, 1<<k-1, 1<<k, 1<<k+1, greatest<<k, 0x7f<<k)
	}
	return l
}

// some are bytes that look like no rule; each from has its own.
func some(n int, from uint64) string {
	x := from*2862933555777941757 + 3037000493
	b := make([]byte, n)
	for i := range b {
		x ^= x << 13
		x ^= x >> 7
		x ^= x << 17
		b[i] = byte(x >> 32)
	}
	return string(b)
}

// hash is one of many, with unlike bytes.
func hash(i int) api.Hash { return api.Hash([]byte(some(32, uint64(i)+1))) }

// list has n hashes that are unlike each other.
func list(n int) []api.Hash {
	var l []api.Hash
	for i := range n {
		l = append(l, hash(i))
	}
	return l
}

// noNumber, noText, noHash and noList tell of bytes that nothing stands ahead of them.
func noNumber(t *testing.T, s string) {
	t.Helper()
	if n, rest, ok := Read(s); n != 0 || rest != "" || ok {
		t.Errorf("Read of %x: %d, %x, %v", s, n, rest, ok)
	}
}

func noText(t *testing.T, s string) {
	t.Helper()
	if text, rest, ok := Cut(s); text != "" || rest != "" || ok {
		t.Errorf("Cut of %x: %x, %x, %v", s, text, rest, ok)
	}
}

func noHash(t *testing.T, s string) {
	t.Helper()
	if h, rest, ok := Unhash(s); h != (api.Hash{}) || rest != "" || ok {
		t.Errorf("Unhash of %x: %x, %x, %v", s, h, rest, ok)
	}
}

func noList(t *testing.T, s string) {
	t.Helper()
	if l, rest, ok := Unhashes(s); len(l) != 0 || rest != "" || ok {
		t.Errorf("Unhashes of %x: %x, %x, %v", s, l, rest, ok)
	}
}

// isNumber, isText, isHash and isList tell of bytes what stands ahead of them, and what is behind it.
func isNumber(t *testing.T, s string, want uint64, behind string) {
	t.Helper()
	if n, rest, ok := Read(s); n != want || rest != behind || !ok {
		t.Errorf("Read of %x: %d, %x, %v", s, n, rest, ok)
	}
}

func isText(t *testing.T, s, want, behind string) {
	t.Helper()
	if text, rest, ok := Cut(s); text != want || rest != behind || !ok {
		t.Errorf("Cut of %x: %x, %x, %v", s, text, rest, ok)
	}
}

func isHash(t *testing.T, s string, want api.Hash, behind string) {
	t.Helper()
	if h, rest, ok := Unhash(s); h != want || rest != behind || !ok {
		t.Errorf("Unhash of %x: %x, %x, %v", s, h, rest, ok)
	}
}

func isList(t *testing.T, s string, want []api.Hash, behind string) {
	t.Helper()
	if l, rest, ok := Unhashes(s); !slices.Equal(l, want) || rest != behind || !ok {
		t.Errorf("Unhashes of %x: %x, %x, %v", s, l, rest, ok)
	}
}

func TestExamples(t *testing.T) {
	for n, want := range map[uint64]string{0: "\x00", 127: "\x7f", 300: "\x82\x2c"} {
		if got := Num(n); got != want {
			t.Errorf("Num of %d: %x", n, got)
		}
	}
	isNumber(t, "\x82\x2cx", 300, "x")
	noNumber(t, "\x80\x05")
	noNumber(t, "\x82")
	if got := Text("ab"); got != "\x02ab" {
		t.Errorf("Text of ab: %x", got)
	}
	isText(t, "\x02abc", "ab", "c")
	noText(t, "\x03ab")
	if got := Hashes(nil); got != "\x00" {
		t.Errorf("Hashes of nothing: %x", got)
	}
	isList(t, "\x00x", nil, "x")
}

func TestNumAtTheEdgesOfSevenBits(t *testing.T) {
	for n, want := range map[uint64]string{
		1:         "\x01",
		128:       "\x81\x00",
		129:       "\x81\x01",
		255:       "\x81\x7f",
		256:       "\x82\x00",
		16383:     "\xff\x7f",
		16384:     "\x81\x80\x00",
		1<<21 - 1: "\xff\xff\x7f",
		1 << 21:   "\x81\x80\x80\x00",
		1<<28 - 1: "\xff\xff\xff\x7f",
		1 << 28:   "\x81\x80\x80\x80\x00",
		1<<35 - 1: "\xff\xff\xff\xff\x7f",
		1 << 35:   "\x81\x80\x80\x80\x80\x00",
		1<<42 - 1: "\xff\xff\xff\xff\xff\x7f",
		1 << 42:   "\x81\x80\x80\x80\x80\x80\x00",
		1<<49 - 1: "\xff\xff\xff\xff\xff\xff\x7f",
		1 << 49:   "\x81\x80\x80\x80\x80\x80\x80\x00",
		1<<56 - 1: "\xff\xff\xff\xff\xff\xff\xff\x7f",
		1 << 56:   "\x81\x80\x80\x80\x80\x80\x80\x80\x00",
		1<<63 - 1: "\xff\xff\xff\xff\xff\xff\xff\xff\x7f",
		1 << 63:   "\x81\x80\x80\x80\x80\x80\x80\x80\x80\x00",
		greatest:  "\x81\xff\xff\xff\xff\xff\xff\xff\xff\x7f",
	} {
		if got := Num(n); got != want {
			t.Errorf("Num of %d: %x, not %x", n, got, want)
		}
		isNumber(t, want, n, "")
	}
}

func TestNumbersArePutAndRead(t *testing.T) {
	for _, n := range numbers() {
		s := Num(n)
		if want := bytesOf(n); s != want {
			t.Errorf("Num of %d: %x, not %x", n, s, want)
		}
		for _, behind := range behinds {
			isNumber(t, s+behind, n, behind)
		}
		for i := range s {
			noNumber(t, s[:i])
		}
	}
	for n := range uint64(70000) {
		if s := Num(n); s != bytesOf(n) {
			t.Fatalf("Num of %d: %x", n, s)
		}
		isNumber(t, Num(n)+"z", n, "z")
	}
}

func TestNumbersWithMoreBytesThanNeedBe(t *testing.T) {
	for _, n := range append(numbers(), 5) {
		for zeros := 1; zeros < 12; zeros++ {
			for _, behind := range behinds {
				noNumber(t, strings.Repeat("\x80", zeros)+Num(n)+behind)
			}
		}
	}
}

func TestNumbersThatAreTooGreat(t *testing.T) {
	limit := new(big.Int).Lsh(big.NewInt(1), 64)
	for k := range uint(80) {
		for _, far := range []int64{0, 1, 2, 127, 128, 1 << 40} {
			n := new(big.Int).Lsh(limit, k)
			n.Add(n, big.NewInt(far))
			for _, behind := range behinds {
				noNumber(t, digits(n)+behind)
			}
		}
		n := new(big.Int).Lsh(limit, k+1)
		noNumber(t, digits(n.Sub(n, big.NewInt(1))))
	}
	for first := range 128 {
		s := string([]byte{128 + byte(first)}) + strings.Repeat("\xff", 8) + "\x7f"
		if first == 1 {
			isNumber(t, s+"x", greatest, "x")
		} else {
			noNumber(t, s+"x")
		}
	}
	for n := range 40 {
		noNumber(t, strings.Repeat("\xff", n))
		if n > 9 {
			noNumber(t, strings.Repeat("\xff", n)+"\x00")
			noNumber(t, "\x81"+strings.Repeat("\x80", n-1)+"\x00")
		}
	}
	noNumber(t, strings.Repeat("\xff", 1<<20)+"\x7f")
}

// TestReadIsPutAsItStood looks at all bytes of up to three, and at others.
func TestReadIsPutAsItStood(t *testing.T) {
	look := func(s string) {
		n, rest, ok := Read(s)
		end := strings.IndexFunc(s, func(r rune) bool { return r < 128 })
		if end < 0 || s[0] == 128 {
			noNumber(t, s)
		} else if !ok || Num(n)+rest != s || len(rest) != len(s)-end-1 {
			t.Errorf("Read of %x: %d, %x, %v", s, n, rest, ok)
		}
	}
	look("")
	for i := range 1 << 16 {
		look(string([]byte{byte(i)}))
		look(string([]byte{byte(i), byte(i >> 8)}))
		for _, c := range []byte{0, 1, 127, 128, 129, 255} {
			look(string([]byte{byte(i), byte(i >> 8), c}))
		}
	}
	for i := range 20000 {
		s := some(1+i%9, uint64(i))
		look(s)
	}
}

func TestTexts(t *testing.T) {
	for _, n := range []int{0, 1, 2, 31, 32, 126, 127, 128, 129, 200, 255, 256, 16383, 16384, 16385, 65536, 2097151, 2097152} {
		text := some(n, uint64(n))
		s := Text(text)
		if s != bytesOf(uint64(n))+text {
			t.Errorf("Text of %d bytes: %x ..", n, s[:min(len(s), 8)])
		}
		for _, behind := range behinds {
			isText(t, s+behind, text, behind)
		}
		for i := range len(s) {
			if i < 600 || i > len(s)-20 {
				noText(t, s[:i])
			}
		}
	}
	for n, size := range map[int]int{0: 1, 127: 128, 128: 130, 16383: 16385, 16384: 16387} {
		if got := len(Text(strings.Repeat("\x80", n))); got != size {
			t.Errorf("Text of %d bytes has %d", n, got)
		}
	}
}

func TestTextsOfAnyBytes(t *testing.T) {
	for _, text := range []string{"\x00", "\x80", "\xff\xff", "größe €", "\x02ab", Text("x"), strings.Repeat("\x00", 300), "\xed\xa0\x80"} {
		for _, behind := range behinds {
			isText(t, Text(text)+behind, text, behind)
		}
	}
	for _, a := range behinds {
		for _, b := range behinds {
			text, rest, _ := Cut(Text(a) + Text(b))
			if text != a {
				t.Errorf("%x ahead of %x: %x", a, b, text)
			}
			isText(t, rest, b, "")
		}
	}
}

func TestNoTexts(t *testing.T) {
	for _, s := range []string{"", "\x01", "\x03ab", "\x80", "\x80\x00", "\x80\x02ab", "\x82", "\x81\x00", "\x81\x00" + strings.Repeat("a", 127), "\x80\x80\x01a"} {
		noText(t, s)
	}
	for _, n := range numbers() {
		if n > 2 {
			noText(t, Num(n)+"ab")
		}
	}
	over := new(big.Int).Lsh(big.NewInt(1), 64)
	for far := range int64(4) {
		noText(t, digits(new(big.Int).Add(over, big.NewInt(far)))+"abcdef")
	}
}

func TestHash(t *testing.T) {
	for i := range 300 {
		h := hash(i)
		s := Hash(h)
		if s != string(h[:]) {
			t.Errorf("Hash of %x: %x", h, s)
		}
		for _, behind := range behinds {
			isHash(t, s+behind, h, behind)
		}
		for n := range len(s) {
			noHash(t, s[:n])
		}
	}
	for i := range 32 {
		one := api.Hash{}
		one[i] = byte(200 + i)
		isHash(t, strings.Repeat("\x00", i)+string([]byte{byte(200 + i)})+strings.Repeat("\x00", 31-i)+"y", one, "y")
		isHash(t, Hash(one), one, "")
	}
	isHash(t, strings.Repeat("\x00", 33), api.Hash{}, "\x00")
}

func TestLists(t *testing.T) {
	for n := range 65 {
		l := list(n)
		s := Hashes(l)
		want := string([]byte{byte(n)})
		for _, h := range l {
			want += string(h[:])
		}
		if s != want {
			t.Errorf("Hashes of %d: %x", n, s)
		}
		for _, behind := range behinds {
			isList(t, s+behind, l, behind)
		}
		if n < 3 || n > 62 {
			for i := range len(s) {
				noList(t, s[:i])
			}
		}
	}
	same := make([]api.Hash, 64)
	isList(t, Hashes(same), same, "")
	isList(t, Hashes(same[:3])+Hashes(list(2)), same[:3], Hashes(list(2)))
	if Hashes([]api.Hash{}) != "\x00" || Hashes(list(64)[:0]) != "\x00" {
		t.Error("an empty list is another one than nil")
	}
}

func TestListsThatAreTooLong(t *testing.T) {
	for _, n := range []int{65, 66, 100, 127, 128, 129, 192, 256, 320, 1000, 16384} {
		l := list(n)
		if s := Hashes(l); s != "" {
			t.Errorf("Hashes of %d: %d bytes", n, len(s))
		}
		s := Num(uint64(n))
		for _, h := range l {
			s += Hash(h)
		}
		noList(t, s)
		noList(t, s+"x")
	}
	for _, n := range numbers() {
		if n > 64 {
			noList(t, Num(n)+strings.Repeat("a", 70*32))
		}
	}
}

func TestNoLists(t *testing.T) {
	body := strings.Repeat("a", 70*32)
	for _, s := range []string{"", "\x01", "\x80", "\x80\x00", "\x80\x01" + body, "\x80\x80\x00", "\x81", "\x81\x00" + body, "\xc0\x00" + body, "\x41" + body} {
		noList(t, s)
	}
	over := new(big.Int).Lsh(big.NewInt(1), 64)
	for far := range int64(4) {
		noList(t, digits(new(big.Int).Add(over, big.NewInt(far)))+body)
	}
}

// TestAnyBytes says of whatever is read that it is put as the bytes that stood there.
func TestAnyBytes(t *testing.T) {
	for i := range 5000 {
		s := some(i%400, uint64(i))
		if i%3 > 0 {
			s = string([]byte{byte(i % 67)}) + s
		}
		if n, rest, ok := Read(s); ok && Num(n)+rest != s {
			t.Errorf("Read of %x: %d, %x", s, n, rest)
		} else if !ok {
			noNumber(t, s)
		}
		if text, rest, ok := Cut(s); ok && Text(text)+rest != s {
			t.Errorf("Cut of %x: %x, %x", s, text, rest)
		} else if !ok {
			noText(t, s)
		}
		if h, rest, ok := Unhash(s); ok != (len(s) >= 32) || ok && Hash(h)+rest != s {
			t.Errorf("Unhash of %x: %x, %x, %v", s, h, rest, ok)
		} else if !ok {
			noHash(t, s)
		}
		if l, rest, ok := Unhashes(s); ok && Hashes(l)+rest != s {
			t.Errorf("Unhashes of %x: %x, %x", s, l, rest)
		} else if !ok {
			noList(t, s)
		}
	}
}

// TestListsAreTheCallersOwn changes lists that were handed in, or told.
func TestListsAreTheCallersOwn(t *testing.T) {
	roomy := append(make([]api.Hash, 0, 64), list(3)...)
	s := Hashes(roomy)
	if !slices.Equal(roomy, list(3)) || roomy[:4][3] != (api.Hash{}) {
		t.Error("Hashes changed what it was given")
	}
	roomy[1] = api.Hash{}
	isList(t, s, list(3), "")

	first, _, _ := Unhashes(s)
	second, _, _ := Unhashes(s)
	for i := range first {
		first[i] = api.Hash{}
	}
	first = append(first[:1], list(64)...)
	if !slices.Equal(second, list(3)) {
		t.Error("two lists that were told share their hashes")
	}
	isList(t, s, list(3), "")
	if len(first) != 65 || Hashes(second) != s {
		t.Error("a list that was told is not the caller's own")
	}
}

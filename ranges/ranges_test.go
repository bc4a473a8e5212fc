package ranges

import (
	"fmt"
	"math"
	"math/rand"
	"slices"
	"strconv"
	"testing"

	"speculum/api"
	"speculum/trees"
)

// nothing is the root of no leaves: the hash of no bytes.
const nothing = "e3b0c44298fc1c149afbf4c8996fb92427ae41e4649b934ca495991b7852b855"

// leaves are those of the entries 0, 1, 2 and so on, as texts; the hashes of them that stand below are from another program.
func leaves(n int) []api.Hash {
	l := make([]api.Hash, n)
	for i := range l {
		l[i] = trees.Leaf(strconv.Itoa(i))
	}
	return l
}

// marked are hashes that are no leaves', each of its own number.
func marked(n int) []api.Hash {
	l := make([]api.Hash, n)
	for i := range l {
		l[i] = api.Hash{byte(i), byte(i >> 8), 7}
	}
	return l
}

// texts are hashes to the base 16.
func texts(l []api.Hash) []string {
	var s []string
	for _, h := range l {
		s = append(s, fmt.Sprintf("%x", h))
	}
	return s
}

// rangeOf is the range of leaves by the chapter's words: powers of two, the largest ones first, each once.
func rangeOf(l []api.Hash) api.Range {
	r := api.Range{Size: len(l)}
	for k := 1 << 13; k > 0; k /= 2 {
		if k <= len(l) {
			r.Hashes = append(r.Hashes, trees.Root(l[:k]))
			l = l[k:]
		}
	}
	return r
}

// partsOf are the roots of leaves that stand behind from others, by the chapter's words.
func partsOf(from int, l []api.Hash) []api.Hash {
	var p []api.Hash
	for len(l) > 0 {
		k := 1 << 13
		for from%k != 0 || k > len(l) {
			k /= 2
		}
		p = append(p, trees.Root(l[:k]))
		from, l = from+k, l[k:]
	}
	return p
}

// parted is how many parts the leaves from one number up to another one have.
func parted(from, to int) int { return len(partsOf(from, make([]api.Hash, to-from))) }

// equal tells whether two ranges are the same, as the package has nothing to do with it.
func equal(a, b api.Range) bool {
	if a.Size != b.Size || len(a.Hashes) != len(b.Hashes) {
		return false
	}
	for i := range a.Hashes {
		if a.Hashes[i] != b.Hashes[i] {
			return false
		}
	}
	return true
}

// isRange looks at what a call told, that was to tell a range.
func isRange(t *testing.T, what string, r api.Range, e api.Errno, want api.Range) {
	t.Helper()
	if e != api.OK || !equal(r, want) {
		t.Errorf("%s: %d, %v, not %d, %v", what, r.Size, texts(r.Hashes), want.Size, texts(want.Hashes))
	}
	if !Valid(r) || len(r.Hashes) > 13 {
		t.Errorf("%s: a range of %d with %d hashes may not be", what, r.Size, len(r.Hashes))
	}
}

// noRange looks at what a call told, that was to tell an error.
func noRange(t *testing.T, what string, r api.Range, e, want api.Errno) {
	t.Helper()
	if e != want || r.Size != 0 || len(r.Hashes) != 0 {
		t.Errorf("%s: error %d, not %d, with %d, %v", what, e, want, r.Size, texts(r.Hashes))
	}
}

// isRoot looks at what Root told.
func isRoot(t *testing.T, what string, r api.Range, want api.Hash) {
	t.Helper()
	if h, e := Root(r); e != api.OK || h != want {
		t.Errorf("Root of %s: %x, error %d, not %x", what, h, e, want)
	}
}

// unfit are ranges that may not be.
func unfit() []api.Range {
	l := []api.Range{
		{Size: 0, Hashes: marked(1)},
		{Size: 1},
		{Size: 1, Hashes: []api.Hash{}},
		{Size: 1, Hashes: marked(2)},
		{Size: 2, Hashes: marked(2)},
		{Size: 3, Hashes: marked(1)},
		{Size: 3, Hashes: marked(3)},
		{Size: 4095, Hashes: marked(11)},
		{Size: 4095, Hashes: marked(13)},
		{Size: 4096},
		{Size: 4096, Hashes: marked(2)},
		{Size: 4096, Hashes: marked(12)},
		{Size: 4096, Hashes: marked(4096)},
	}
	for _, size := range []int{-1, -2, -3, -4096, math.MinInt, math.MinInt + 1, -1 << 32, 4097, 4098, 4099, 8191, 8192, 1 << 32, 1<<32 + 1, 1 << 62, math.MaxInt} {
		for _, n := range []int{0, 1, 2, 3, 13, 32, 62, 63, 64} {
			l = append(l, api.Range{Size: size, Hashes: marked(n)})
		}
	}
	return l
}

// sizes are all numbers of leaves up to 70, and those round greater powers of two.
func sizes() []int {
	var l []int
	for n := range 71 {
		l = append(l, n)
	}
	for k := 128; k <= api.MaxEntries; k *= 2 {
		l = append(l, k-1, k)
		if k < api.MaxEntries {
			l = append(l, k+1, k+k/2)
		}
	}
	return append(l, 1000, 2733, 4094)
}

func TestExamples(t *testing.T) {
	l := marked(6)
	a, b, c, d, e, f := l[0], l[1], l[2], l[3], l[4], l[5]
	abcd := trees.Node(trees.Node(a, b), trees.Node(c, d))
	five, err := Of(l[:5])
	isRange(t, "Of", five, err, api.Range{Size: 5, Hashes: []api.Hash{abcd, e}})
	six, err := Append(five, f)
	isRange(t, "Append", six, err, api.Range{Size: 6, Hashes: []api.Hash{abcd, trees.Node(e, f)}})
	p, err := Part(1, l[1:5])
	if err != api.OK || !slices.Equal(p, []api.Hash{b, trees.Node(c, d), e}) {
		t.Errorf("Part: %v, error %d", texts(p), err)
	}
	one, _ := Of(l[:1])
	again, err := Merge(one, 5, p)
	isRange(t, "Merge", again, err, five)
}

func TestOfAsAnotherProgramTold(t *testing.T) {
	l := leaves(api.MaxEntries)
	for n, want := range map[int][]string{
		0: {},
		1: {
			"db3426e878068d28d269b6c87172322ce5372b65756d0789001d34835f601c03",
		},
		2: {
			"cb00989d94a569c0a678ae042b63dcd4625db96440517f37a6eb7976ea24ed4b",
		},
		3: {
			"cb00989d94a569c0a678ae042b63dcd4625db96440517f37a6eb7976ea24ed4b",
			"fa61e3dec3439589f4784c893bf321d0084f04c572c7af2b68e3f3360a35b486",
		},
		5: {
			"9f4a3fc20d4162dc37d4e23d907848731a76043ffff6d69288bf1abfbcff478e",
			"11e1f558223f4c71b6be1cecfd1f0de87146d2594877c27b29ec519f9040213c",
		},
		7: {
			"9f4a3fc20d4162dc37d4e23d907848731a76043ffff6d69288bf1abfbcff478e",
			"d2737dce8a7df1d7d5cf4d5f52d274802c71bfe20a2e078682e71c182d398c90",
			"3bf9c81c231cae70b678d3f3038f9f4f6d6b9d7adcf9b378f25919ae53d17686",
		},
		8: {
			"3b85a9626c1ccb64c6b95ec7fa64888defe2cf12e39e77e10812ce5fcb9cb58e",
		},
		9: {
			"3b85a9626c1ccb64c6b95ec7fa64888defe2cf12e39e77e10812ce5fcb9cb58e",
			"195f58bc6d6b7b36335c95e08343825a7ae6f30437b4a7e6fa7b89d76907570a",
		},
		100: {
			"391a31ee43d791bbe11932a5a2242719c18874e81cf32f0d8d3d7bf31bfca6b8",
			"712da138c00a40ad99c4d60624ef32bf8355668cd95beb47f45222e8b87225f7",
			"c3ab3261f701b462d05b0b2a504dd8a0d7bb44a6a9208a4d9324e0d8851a2b50",
		},
		1000: {
			"d4b2162495ca609dc06390d353ca0c55107765c609e0226eb747d89105dc8d55",
			"018d5c25e9bbb4d832e744818f90071116788d2603cd4d7be2f5debd9ba548aa",
			"1519dc258fa6deea0c66b0950913a6970f24c85e7a21ea258bfe0f42c5c9dde2",
			"2863fce8cbd8de6bfad87d355dba151dd54adfa5ecd8c48dd74e0829ade517e8",
			"3d970bcbdf6adf6fbaf0917e85e3ec0d7d72a2c528fa7fdb6045bdb3e5c184d8",
			"732658f15e558866805fff81424298d1237326f1197c91b5466e461faed59604",
		},
		4095: {
			"c7444f52c6cb22152a040b6afe1fd93febd500dfd637eea67a1491fedf9ae623",
			"fcd5afbd41ea4aceb8ffe998f6d48d7df41fa52ae39eb7b3815c355f62ad9542",
			"fcb5212b43eec4f24d1e894449f40e8d3a8eef50ac9632cb0546ee4e34d7d1f6",
			"de8d5cb69532eadebb101e2737d4ed9526de021682695ad73d299114e2a89dfd",
			"8b34f984ef80fafea8a1402cc473ae25920f88f892f9203d9fd247d580e11b34",
			"07f1331e6a4315b214ebe6ad9892c4ebaac1be97de0a83d7b6ccdb0692043016",
			"24b22240ce1ec0bb3ae64ecf802116c369dab8e43f157b5c83c98cc51d27a54d",
			"5cea5981c4a8db633abf2a098db6a2f0dc471eeaa915a83d65677c33be5b63b6",
			"c1b464be94fd6ac9c86dbd93f84ecc7940eaa2f9a9ffb16f673d37f64e12fe10",
			"e4892fc6a53161b3b4bc2c06f89621b9567c833183ffbc8a373aa8e52067a873",
			"2404192646491780213ca7a427c8cc441cb12f9f3064232f70a99bd9b19b7b91",
			"962c2d1aa64d66e5c1bf416c47c6b62a9978af061fd28cb052a1e91d664dd895",
		},
		4096: {
			"5922475ce3e128c476adfd094bbe33d4a515fd2266848485d18b81c80b02843a",
		},
	} {
		r, e := Of(l[:n])
		if e != api.OK || r.Size != n || !slices.Equal(texts(r.Hashes), want) {
			t.Errorf("Of %d: error %d, %d, %v, not %v", n, e, r.Size, texts(r.Hashes), want)
		}
	}
}

func TestOf(t *testing.T) {
	l := leaves(api.MaxEntries)
	for _, n := range sizes() {
		r, e := Of(l[:n])
		isRange(t, fmt.Sprint("Of ", n), r, e, rangeOf(l[:n]))
		isRoot(t, fmt.Sprint("Of ", n), r, trees.Root(l[:n]))
	}
	for name, none := range map[string][]api.Hash{"nil": nil, "an empty list": {}, "a list with room": make([]api.Hash, 0, 9)} {
		r, e := Of(none)
		isRange(t, "Of "+name, r, e, api.Range{})
	}
}

func TestOfTooMany(t *testing.T) {
	for _, n := range []int{api.MaxEntries + 1, api.MaxEntries + 2, 8191, 8192, 8193, 1 << 16} {
		r, e := Of(make([]api.Hash, n))
		noRange(t, fmt.Sprint("Of ", n), r, e, api.ErrFull)
	}
}

func TestValid(t *testing.T) {
	for size := -70; size <= api.MaxEntries+70; size++ {
		ones := 0
		for _, digit := range strconv.FormatInt(int64(size), 2) {
			if digit == '1' {
				ones++
			}
		}
		for n := range 16 {
			want := size >= 0 && size <= 4096 && n == ones
			if got := Valid(api.Range{Size: size, Hashes: make([]api.Hash, n)}); got != want {
				t.Errorf("Valid of %d with %d hashes: %v", size, n, got)
			}
		}
	}
	for i, r := range unfit() {
		if Valid(r) {
			t.Errorf("%d: Valid of %d with %d hashes", i, r.Size, len(r.Hashes))
		}
	}
	// Whatever the hashes are.
	for _, r := range []api.Range{{}, {Hashes: []api.Hash{}}, {Size: 1, Hashes: make([]api.Hash, 1)}, {Size: 3, Hashes: make([]api.Hash, 2)}, {Size: 4096, Hashes: marked(1)}} {
		if !Valid(r) {
			t.Errorf("not Valid: %d with %d hashes", r.Size, len(r.Hashes))
		}
	}
}

func TestSame(t *testing.T) {
	l := append(unfit(), rangeOf(nil), rangeOf(marked(1)), rangeOf(marked(2)), rangeOf(marked(3)), rangeOf(leaves(3)), rangeOf(leaves(4095)), rangeOf(leaves(4096)))
	for i, a := range l {
		for j, b := range l {
			want := equal(a, b)
			if got := Same(a, b); got != want {
				t.Errorf("Same of %d and %d: %v", i, j, got)
			}
		}
		if b := (api.Range{Size: a.Size, Hashes: append(make([]api.Hash, 0, 99), a.Hashes...)}); !Same(a, b) || !Same(b, a) {
			t.Errorf("not Same: %d and its copy", i)
		}
	}
	for _, size := range []int{0, 1, -1, 5} {
		if a, b := (api.Range{Size: size}), (api.Range{Size: size, Hashes: []api.Hash{}}); !Same(a, b) || !Same(b, a) {
			t.Errorf("not Same: nil and an empty list, of the size %d", size)
		}
	}
}

func TestSameLooksAtAllOfIt(t *testing.T) {
	a, b := rangeOf(leaves(7)), rangeOf(leaves(7))
	for i := range b.Hashes {
		for bit := range 256 {
			b.Hashes[i][bit/8] ^= 1 << (bit % 8)
			if Same(a, b) || Same(b, a) {
				t.Errorf("Same with the bit %d of the hash %d turned", bit, i)
			}
			b.Hashes[i][bit/8] ^= 1 << (bit % 8)
		}
		for j := range i {
			b.Hashes[i], b.Hashes[j] = b.Hashes[j], b.Hashes[i]
			if Same(a, b) || Same(b, a) {
				t.Errorf("Same with the hashes %d and %d turned about", i, j)
			}
			b.Hashes[i], b.Hashes[j] = b.Hashes[j], b.Hashes[i]
		}
	}
	for _, size := range []int{0, 6, 8, -7, 11, 13, 14, 7 + 1<<32} {
		b.Size = size
		if Same(a, b) || Same(b, a) {
			t.Errorf("Same with the size %d", size)
		}
	}
	b.Size = 7
	for n := range b.Hashes {
		c := api.Range{Size: 7, Hashes: b.Hashes[:n]}
		if Same(a, c) || Same(c, a) {
			t.Errorf("Same with the first %d hashes", n)
		}
	}
	if !Same(a, b) {
		t.Error("not Same as it was")
	}
}

func TestAppend(t *testing.T) {
	l := leaves(api.MaxEntries)
	look := sizes()
	var r api.Range
	for n := range l {
		next, e := Append(r, l[n])
		if e != api.OK || next.Size != n+1 {
			t.Fatalf("Append to %d: error %d, %d", n, e, next.Size)
		}
		if slices.Contains(look, n+1) {
			isRange(t, fmt.Sprint("Append to ", n), next, e, rangeOf(l[:n+1]))
			isRoot(t, fmt.Sprint("Append to ", n), next, trees.Root(l[:n+1]))
		}
		r = next
	}
	full, e := Append(r, l[0])
	noRange(t, "Append to all that may be", full, e, api.ErrFull)
}

func TestExtend(t *testing.T) {
	l := leaves(api.MaxEntries)
	for n := range 40 {
		for k := range n + 1 {
			r, e := Extend(rangeOf(l[:k]), l[k:n])
			isRange(t, fmt.Sprint("Extend from ", k, " to ", n), r, e, rangeOf(l[:n]))
		}
	}
	for _, x := range [][2]int{{0, 4096}, {1, 4096}, {2047, 2049}, {2048, 4096}, {4095, 4096}, {4096, 4096}, {1000, 3000}, {100, 4095}} {
		r, e := Extend(rangeOf(l[:x[0]]), l[x[0]:x[1]])
		isRange(t, fmt.Sprint("Extend from ", x[0], " to ", x[1]), r, e, rangeOf(l[:x[1]]))
	}
}

func TestExtendByTooMany(t *testing.T) {
	for _, n := range []int{0, 1, 2, 3, 100, 2048, 4095, 4096} {
		r := rangeOf(marked(n))
		for _, more := range []int{4097 - n, 4098 - n, 4200, 8192 - n, 8192} {
			s, e := Extend(r, make([]api.Hash, more))
			noRange(t, fmt.Sprint("Extend of ", n, " by ", more), s, e, api.ErrFull)
		}
		s, e := Extend(r, nil)
		isRange(t, fmt.Sprint("Extend of ", n, " by nothing"), s, e, r)
	}
}

func TestRoot(t *testing.T) {
	for name, r := range map[string]api.Range{"nil": {}, "an empty list": {Hashes: []api.Hash{}}} {
		h, e := Root(r)
		if got := fmt.Sprintf("%x", h); e != api.OK || got != nothing {
			t.Errorf("Root of %s: %s, error %d", name, got, e)
		}
	}
	m := marked(12)
	isRoot(t, "one", api.Range{Size: 1, Hashes: m[5:6]}, m[5])
	isRoot(t, "a power of two", api.Range{Size: 4096, Hashes: m[5:6]}, m[5])
	isRoot(t, "two", api.Range{Size: 6, Hashes: m[:2]}, trees.Node(m[0], m[1]))
	isRoot(t, "three", api.Range{Size: 7, Hashes: m[:3]}, trees.Node(m[0], trees.Node(m[1], m[2])))
	isRoot(t, "zeros", api.Range{Size: 3, Hashes: make([]api.Hash, 2)}, trees.Node(api.Hash{}, api.Hash{}))
	want := m[11]
	for i := 10; i >= 0; i-- {
		want = trees.Node(m[i], want)
	}
	isRoot(t, "twelve", api.Range{Size: 4095, Hashes: m}, want)
}

func TestRootAsAnotherProgramTold(t *testing.T) {
	l := leaves(api.MaxEntries)
	for n, want := range map[int]string{
		0:    nothing,
		1:    "db3426e878068d28d269b6c87172322ce5372b65756d0789001d34835f601c03",
		2:    "cb00989d94a569c0a678ae042b63dcd4625db96440517f37a6eb7976ea24ed4b",
		3:    "725d5230db68f557470dc35f1d8865813acd7ebb07ad152774141decbae71327",
		7:    "a3e23b32ccb6bf96d092d165d8aa546e09829de8f03b0e8957581d1e16b92bdf",
		100:  "7a1541f5e93292eb40660749ef8f36ef074d30052102fab1abfd03bf09e5685d",
		1000: "638afa98022925bacfddadb15ef22fd0199c1ac99c2973b6158243d13fce05c2",
		4095: "4c29ea1eff29c565800fd1c66d95c605ce2c21eab4e3a2600aee3701feffa188",
		4096: "5922475ce3e128c476adfd094bbe33d4a515fd2266848485d18b81c80b02843a",
	} {
		r, _ := Of(l[:n])
		h, e := Root(r)
		if got := fmt.Sprintf("%x", h); e != api.OK || got != want {
			t.Errorf("Root of %d: %s, error %d, not %s", n, got, e, want)
		}
	}
}

func TestOfRangesThatMayNotBe(t *testing.T) {
	for i, r := range unfit() {
		what := fmt.Sprint(i, ": ", r.Size, " with ", len(r.Hashes), " hashes: ")
		s, e := Append(r, marked(1)[0])
		noRange(t, what+"Append", s, e, api.ErrArg)
		// Of too many leaves, too: that the range may not be is named first.
		for _, n := range []int{0, 1, 2, 4096, 5000} {
			s, e := Extend(r, make([]api.Hash, n))
			noRange(t, what+"Extend", s, e, api.ErrArg)
		}
		if h, e := Root(r); e != api.ErrArg || h != (api.Hash{}) {
			t.Errorf("%sRoot: error %d, %x", what, e, h)
		}
		for _, size := range []int{r.Size - 1, r.Size, r.Size + 1, -1, 0, 1, 4096, 4097, math.MinInt, math.MaxInt} {
			for n := range 3 {
				s, e := Merge(r, size, marked(n))
				noRange(t, what+"Merge", s, e, api.ErrArg)
			}
		}
	}
}

func TestPartAsAnotherProgramTold(t *testing.T) {
	l := leaves(api.MaxEntries)
	for x, want := range map[[2]int][]string{
		{0, 7}: {
			"9f4a3fc20d4162dc37d4e23d907848731a76043ffff6d69288bf1abfbcff478e",
			"d2737dce8a7df1d7d5cf4d5f52d274802c71bfe20a2e078682e71c182d398c90",
			"3bf9c81c231cae70b678d3f3038f9f4f6d6b9d7adcf9b378f25919ae53d17686",
		},
		{1, 5}: {
			"2215e8ac4e2b871c2a48189e79738c956c081e23ac2f2415bf77da199dfd920c",
			"d51f2dfecb59566dabdbb6b40bf651cdf39e677b4425165e217590ff3e010edb",
			"11e1f558223f4c71b6be1cecfd1f0de87146d2594877c27b29ec519f9040213c",
		},
		{3, 12}: {
			"906c5d2485cae722073a430f4d04fe1767507592cef226629aeadb85a2ec909d",
			"31f2973ab63e19375dfe0d165a92ebd9a13d28b5e6fc78072c4068bd7bbfbc37",
			"5b663a362601be3f3bac6431f9f61546fec111f629c96443d7b67cc0bdd5c945",
		},
		{6, 7}: {
			"3bf9c81c231cae70b678d3f3038f9f4f6d6b9d7adcf9b378f25919ae53d17686",
		},
		{7, 8}: {
			"797427cf8368051fe7b8e3e9d5ade9c5bc9d0cf96f4f3fad2a1e1d7848368188",
		},
		{100, 129}: {
			"e6cab7fd0619e6f57195d63e492558e880d687685089c113454002a214ceb643",
			"a095cd877b38dcec9728fe557c7da1d7914b6bb0b6d03408998b4ff60f035e06",
			"e3e6517d7f8989691a96820f15bf7e526ad16484eb60d73db35a61a23350bd9f",
			"9ae82c57ce1d2c9e64572314e2bc6842fea4f25543285b67a25270bc16000422",
		},
		{2048, 4096}: {
			"2adf00c63cba9e5faa374778632c97a3c25f2eea2c843c5e3306dbf481c22124",
		},
		{1, 4096}: {
			"2215e8ac4e2b871c2a48189e79738c956c081e23ac2f2415bf77da199dfd920c",
			"d51f2dfecb59566dabdbb6b40bf651cdf39e677b4425165e217590ff3e010edb",
			"31f2973ab63e19375dfe0d165a92ebd9a13d28b5e6fc78072c4068bd7bbfbc37",
			"404f01deabfce702b8bdc982374a9b5e3796e49c3c8461411e4dd1dcccd7385b",
			"f30f4fa56ad05b7153ba8fa74dceb5b41b56c478fcacfcaf9994adfd14aac5be",
			"3b9a58abb05cd3a37b1c82fbfeba409fd9f346c46cca526b647f7875ea01ec36",
			"d2ed5e687d720e8b2e0e9312da6b76f4b395f1d441e6570db0da6ad105168303",
			"99ea324be0fde9bd63bb057d10be138a726e2e3fe03c8677d5b7a684b6bd26ca",
			"7d95b32750f4c12f0db0772ae4f8947ce20d46166d985c23fa20afe94bc7940b",
			"51f412ce944770a4ae4b9be80d8017dcfbc21c20291c2a7210527834f0e01a2c",
			"da9eaec7a24616e53df49d05805f8253488bd4d004f734658dec703a2d90be3f",
			"2adf00c63cba9e5faa374778632c97a3c25f2eea2c843c5e3306dbf481c22124",
		},
	} {
		p, e := Part(x[0], l[x[0]:x[1]])
		if e != api.OK || !slices.Equal(texts(p), want) {
			t.Errorf("Part from %d to %d: error %d, %v, not %v", x[0], x[1], e, texts(p), want)
		}
	}
}

func TestPart(t *testing.T) {
	l := leaves(70)
	for from := range 70 {
		for to := from; to <= 70; to++ {
			p, e := Part(from, l[from:to])
			if e != api.OK || !slices.Equal(p, partsOf(from, l[from:to])) {
				t.Errorf("Part from %d to %d: error %d, %v", from, to, e, texts(p))
			}
		}
	}
	// Which leaves stand ahead is not looked at, but how many.
	m := marked(api.MaxEntries)
	for _, x := range [][2]int{{0, 4096}, {0, 4095}, {1, 4095}, {1, 4094}, {2047, 2049}, {2048, 2048}, {2049, 2047}, {4094, 2}, {4095, 1}, {3000, 1000}, {1024, 2048}, {1023, 2050}} {
		p, e := Part(x[0], m[:x[1]])
		if e != api.OK || !slices.Equal(p, partsOf(x[0], m[:x[1]])) {
			t.Errorf("Part from %d on, of %d: error %d, %v", x[0], x[1], e, texts(p))
		}
	}
}

func TestPartOfNothing(t *testing.T) {
	for _, from := range []int{0, 1, 2, 3, 4, 2048, 4095, 4096} {
		for name, none := range map[string][]api.Hash{"nil": nil, "an empty list": {}} {
			if p, e := Part(from, none); e != api.OK || len(p) != 0 {
				t.Errorf("Part from %d on, of %s: error %d, %v", from, name, e, texts(p))
			}
		}
	}
}

func TestPartThatMayNotBe(t *testing.T) {
	for _, n := range []int{0, 1, 2, 3, 4095, 4096, 4097, 5000} {
		for _, from := range []int{-1, -2, -4096, -n, math.MinInt, math.MinInt + 1, math.MinInt + n, 4097 - n, 4098 - n, 4097, 8192, 1 << 32, 1 << 62, math.MaxInt - n, math.MaxInt - 1, math.MaxInt} {
			if from >= 0 && from <= 4096-n {
				continue
			}
			if p, e := Part(from, make([]api.Hash, n)); e != api.ErrArg || len(p) != 0 {
				t.Errorf("Part from %d on, of %d: error %d, %v", from, n, e, texts(p))
			}
		}
	}
}

func TestMerge(t *testing.T) {
	l := leaves(api.MaxEntries)
	for n := range 40 {
		for k := range n + 1 {
			r, e := Merge(rangeOf(l[:k]), n, partsOf(k, l[k:n]))
			isRange(t, fmt.Sprint("Merge of ", k, " up to ", n), r, e, rangeOf(l[:n]))
		}
	}
	for _, x := range [][2]int{{0, 4096}, {1, 4096}, {2047, 4096}, {2048, 4096}, {4095, 4096}, {4096, 4096}, {1000, 3000}, {100, 4095}, {1, 4095}} {
		r, e := Merge(rangeOf(l[:x[0]]), x[1], partsOf(x[0], l[x[0]:x[1]]))
		isRange(t, fmt.Sprint("Merge of ", x[0], " up to ", x[1]), r, e, rangeOf(l[:x[1]]))
	}
}

func TestMergeOfHashesAlone(t *testing.T) {
	m := marked(5)
	for name, x := range map[string]struct {
		from api.Range
		size int
		p    []api.Hash
		want []api.Hash
	}{
		"nothing":            {api.Range{}, 0, nil, nil},
		"one":                {api.Range{}, 1, m[:1], m[:1]},
		"all at once":        {api.Range{}, 4096, m[:1], m[:1]},
		"three at once":      {api.Range{}, 7, m[:3], m[:3]},
		"two of one size":    {api.Range{Size: 8, Hashes: m[:1]}, 16, m[1:2], []api.Hash{trees.Node(m[0], m[1])}},
		"a smaller one":      {api.Range{Size: 8, Hashes: m[:1]}, 12, m[1:2], m[:2]},
		"two smaller ones":   {api.Range{Size: 8, Hashes: m[:1]}, 14, m[1:3], m[:3]},
		"up, and up":         {api.Range{Size: 3, Hashes: m[:2]}, 4, m[2:3], []api.Hash{trees.Node(m[0], trees.Node(m[1], m[2]))}},
		"up, and down":       {api.Range{Size: 6, Hashes: m[:2]}, 9, m[2:4], []api.Hash{trees.Node(m[0], trees.Node(m[1], m[2])), m[3]}},
		"up, and up, by two": {api.Range{Size: 1, Hashes: m[:1]}, 4, m[1:3], []api.Hash{trees.Node(trees.Node(m[0], m[1]), m[2])}},
	} {
		r, e := Merge(x.from, x.size, x.p)
		isRange(t, name, r, e, api.Range{Size: x.size, Hashes: x.want})
	}
}

func TestMergeUpToASizeThatMayNotBe(t *testing.T) {
	for _, n := range []int{0, 1, 2, 3, 6, 100, 2048, 4095, 4096} {
		r := rangeOf(marked(n))
		for _, size := range []int{n - 1, n - 2, n / 2, 0, -1, -n, math.MinInt, math.MinInt + 1, 4097, 4098, 4100, 8191, 8192, 8192 + n, n + 1<<32, 1 << 62, math.MaxInt} {
			if size >= n && size <= 4096 {
				continue
			}
			for many := range 20 {
				s, e := Merge(r, size, marked(many))
				noRange(t, fmt.Sprint("Merge of ", n, " up to ", size, " by ", many), s, e, api.ErrArg)
			}
		}
	}
}

func TestMergeOfTooManyOrTooFew(t *testing.T) {
	for _, n := range []int{0, 1, 2, 3, 4, 5, 6, 7, 8, 12, 100, 2047, 2048, 2049, 4095, 4096} {
		r := rangeOf(marked(n))
		for _, size := range []int{n, n + 1, n + 2, n + 3, n + 7, n + n, 4000, 4095, 4096} {
			if size < n || size > 4096 {
				continue
			}
			fit := parted(n, size)
			for many := range 30 {
				s, e := Merge(r, size, marked(many))
				if many != fit {
					noRange(t, fmt.Sprint("Merge of ", n, " up to ", size, " by ", many), s, e, api.ErrArg)
				} else if e != api.OK || s.Size != size || !Valid(s) {
					t.Errorf("Merge of %d up to %d by %d: error %d, %d with %d hashes", n, size, many, e, s.Size, len(s.Hashes))
				}
			}
		}
	}
}

// on is a range that goes on with leaves, put behind it in one of three ways.
func on(t *testing.T, way int, r api.Range, l []api.Hash) api.Range {
	t.Helper()
	var e api.Errno
	switch way {
	case 0:
		for _, h := range l {
			if r, e = Append(r, h); e != api.OK {
				t.Fatal("Append:", e)
			}
		}
	case 1:
		if r, e = Extend(r, l); e != api.OK {
			t.Fatal("Extend:", e)
		}
	case 2:
		p, e := Part(r.Size, l)
		if e != api.OK {
			t.Fatal("Part:", e)
		}
		if r, e = Merge(r, r.Size+len(l), p); e != api.OK {
			t.Fatal("Merge:", e)
		}
	}
	return r
}

func TestHoweverTheyArePutTogether(t *testing.T) {
	l := leaves(api.MaxEntries)
	for seed := range 60 {
		random := rand.New(rand.NewSource(int64(seed)))
		most := []int{3, 20, 200, 2000, api.MaxEntries}[seed%5]
		size := random.Intn(min(60*most, api.MaxEntries) + 1)
		r, ways := api.Range{}, ""
		if random.Intn(2) == 0 {
			n := min(random.Intn(most+1), size)
			r, _ = Of(l[:n])
			ways = fmt.Sprint("Of ", n)
		}
		for r.Size < size {
			way, n := random.Intn(3), min(random.Intn(most+1), size-r.Size)
			r = on(t, way, r, l[r.Size:r.Size+n])
			ways += fmt.Sprint(", ", way, " of ", n)
		}
		all, e := Of(l[:size])
		isRange(t, ways, r, e, all)
		if !Same(r, all) {
			t.Errorf("%s: not the same", ways)
		}
		isRoot(t, ways, r, trees.Root(l[:size]))
	}
}

func TestOtherLeavesMakeAnotherRange(t *testing.T) {
	l := leaves(37)
	r, _ := Of(l)
	for i := range l {
		was := l[i]
		l[i] = trees.Leaf("another")
		s, e := Of(l)
		if e != api.OK || Same(r, s) {
			t.Errorf("another leaf at %d: the same range, error %d", i, e)
		}
		l[i] = was
	}
}

// behind are the hashes that have room behind a list.
func behind(l []api.Hash) []api.Hash { return l[len(l):cap(l)] }

// roomy is a list with room behind it, in which other hashes stand.
func roomy(l []api.Hash) []api.Hash {
	room := append(slices.Clone(l), leaves(20)...)
	return room[:len(l)]
}

func TestListsStayAsTheyWere(t *testing.T) {
	for _, n := range []int{0, 1, 2, 3, 4, 5, 6, 7, 8, 15, 31, 63} {
		r := rangeOf(marked(n))
		r.Hashes = roomy(r.Hashes)
		l := roomy(marked(9))
		p := roomy(partsOf(n, marked(9)))
		wasR, wasL, wasP := slices.Clone(r.Hashes[:cap(r.Hashes)]), slices.Clone(l[:cap(l)]), slices.Clone(p[:cap(p)])
		Append(r, l[0])
		Extend(r, l)
		Root(r)
		Valid(r)
		Same(r, r)
		Of(l)
		Part(n, l)
		Merge(r, n+9, p)
		Merge(r, n+9, l)
		if !slices.Equal(wasR, r.Hashes[:cap(r.Hashes)]) || !slices.Equal(wasL, l[:cap(l)]) || !slices.Equal(wasP, p[:cap(p)]) {
			t.Errorf("of %d: a list was changed, or what is behind it", n)
		}
	}
}

func TestListsThatAreToldAreTheCallersOwn(t *testing.T) {
	wipe := func(l []api.Hash) {
		clear(l)
		clear(behind(l))
	}
	for _, n := range []int{0, 1, 2, 3, 4, 7, 8, 15, 40} {
		l := roomy(marked(n + 9))
		r := rangeOf(l[:n])
		r.Hashes = roomy(r.Hashes)
		p := roomy(partsOf(n, l[n:]))
		wasR, wasL, wasP := slices.Clone(r.Hashes[:cap(r.Hashes)]), slices.Clone(l[:cap(l)]), slices.Clone(p[:cap(p)])
		told := func() [][]api.Hash {
			of, _ := Of(l[:n])
			one, _ := Append(r, l[n])
			same, _ := Extend(r, nil)
			more, _ := Extend(r, l[n:])
			part, _ := Part(n, l[n:])
			as, _ := Merge(r, n, nil)
			up, _ := Merge(r, n+9, p)
			return [][]api.Hash{of.Hashes, one.Hashes, same.Hashes, more.Hashes, part, as.Hashes, up.Hashes}
		}
		first := told()
		var kept [][]api.Hash
		for _, h := range first {
			kept = append(kept, append([]api.Hash(nil), h...))
		}
		for _, h := range first {
			wipe(h)
		}
		if !slices.Equal(wasR, r.Hashes[:cap(r.Hashes)]) || !slices.Equal(wasL, l[:cap(l)]) || !slices.Equal(wasP, p[:cap(p)]) {
			t.Errorf("of %d: a list that was handed in is changed by one that was told", n)
		}
		second := told()
		wipe(r.Hashes)
		wipe(l)
		wipe(p)
		for i := range second {
			if !slices.Equal(second[i], kept[i]) {
				t.Errorf("of %d: the list %d is another one by what was handed in, or told ahead", n, i)
			}
		}
	}
}

func TestTwoRangesGoOnFromOne(t *testing.T) {
	m := marked(80)
	for n := range 40 {
		r, _ := Of(m[:n])
		a, _ := Append(r, m[50])
		b, _ := Append(r, m[51])
		c, _ := Extend(r, m[52:70])
		isRange(t, fmt.Sprint(n, ", the first"), a, api.OK, rangeOf(append(slices.Clone(m[:n]), m[50])))
		isRange(t, fmt.Sprint(n, ", the second"), b, api.OK, rangeOf(append(slices.Clone(m[:n]), m[51])))
		isRange(t, fmt.Sprint(n, ", the third"), c, api.OK, rangeOf(append(slices.Clone(m[:n]), m[52:70]...)))
		isRange(t, fmt.Sprint(n, ", that one"), r, api.OK, rangeOf(m[:n]))
	}
}

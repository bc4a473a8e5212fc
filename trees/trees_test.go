package trees

import (
	"fmt"
	"math"
	"slices"
	"strconv"
	"strings"
	"testing"

	"speculum/api"
	"speculum/sha"
)

// some are bytes that look like no rule; each from has its own.
func some(n int, from uint64) string {
	x := from*2862933555777941757 + 3037000493
	b := make([]byte, n)
	for i := range b {
		x ^= x << 13
		x ^= x >> 7
		x ^= x << 17
		b[i] = byte(x >> 32)
	}
	return string(b)
}

// leaves are those of the entries 0, 1, 2 and so on, as texts; the roots of them that stand below are from another program.
func leaves(n int) []api.Hash {
	l := make([]api.Hash, n)
	for i := range l {
		l[i] = Leaf(strconv.Itoa(i))
	}
	return l
}

// bytes32 are 32 bytes, one behind the other, from first on.
func bytes32(first byte) (h api.Hash) {
	for i := range h {
		h[i] = first + byte(i)
	}
	return h
}

// isHash tells of a hash what it is as a text.
func isHash(t *testing.T, what string, h api.Hash, want string) {
	t.Helper()
	if got := fmt.Sprintf("%x", h); got != want {
		t.Errorf("%s: %s, not %s", what, got, want)
	}
}

// levelled is the root of leaves, put together level by level: what is left alone goes up as it is.
func levelled(l []api.Hash) api.Hash {
	if len(l) == 0 {
		return sha.Sum("")
	}
	for len(l) > 1 {
		var above []api.Hash
		for i := 0; i+1 < len(l); i += 2 {
			above = append(above, Node(l[i], l[i+1]))
		}
		if len(l)%2 == 1 {
			above = append(above, l[len(l)-1])
		}
		l = above
	}
	return l[0]
}

func TestLeaf(t *testing.T) {
	for s, want := range map[string]string{
		"":                        "6e340b9cffb37a989ca544e6bb780a2c78901d3fb33738768511a30617afa01d",
		"\x00":                    "96a296d224f285c67bee93c30f8a309157f0daa35dc5b87e410b78630a09cfc7",
		"\x01":                    "b413f47d13ee2fe6c845b2ee141af81de858df4ec549a58b7970bb96645bc8d2",
		"a":                       "022a6979e6dab7aa5ae4c3e5e45f7e977112a7e63593820dbec1ec738a24f93c",
		"abc":                     "609f6e36d2405585188d5cfd761f407c7cc46a7d3f314c88270469dde315fcd1",
		"größe €":                 "32abd0e98f7b876e90aea7c7ebeb0246bdbc8faacbf7aadae471e44db6c4ee00",
		strings.Repeat("a", 54):   "745b56dbbdcd3981041d8580641f8112b26b8df7e50c4fdb649da06fdaaff25d",
		strings.Repeat("a", 55):   "2f96780fb415b287dd95897a04ef96fde6a5f5b0c771d0a1175543bc3250718e",
		strings.Repeat("a", 62):   "2d0bd2e2f756b2522530bdd118b40ce800061c891b392735d6fdf2a6f95790f4",
		strings.Repeat("a", 63):   "5ec0fdb427bf003f71ceb018dfedc0028590a422eaf9f15a69dd1e5a6aa03d5e",
		strings.Repeat("a", 64):   "88df0645999a1bc9dec19086e862403750a069436d7ecf7775256f78279b3fcb",
		strings.Repeat("a", 200):  "fa90c726b3aa926ec699e14002374af35f24d00f71a966dda2cf564b1f59ae61",
		strings.Repeat("a", 1000): "7489c42b058d685ce40b6514d41ca13c8ff13a6347d5d2b44ad97fd485290f39",
	} {
		isHash(t, fmt.Sprintf("Leaf of %d bytes", len(s)), Leaf(s), want)
	}
}

func TestNode(t *testing.T) {
	var zero, ones api.Hash
	for i := range ones {
		ones[i] = 0xff
	}
	isHash(t, "Node of zeros", Node(zero, zero), "ae0798d0ecaed2b778eddebf18f071a561c53658c05e76cedecc27cafbdbc577")
	isHash(t, "Node of ones and zeros", Node(ones, zero), "a72afab084e5434c27771f0c63ab22802c9f2e963e417e09b4a95a3fdf4baff6")
	isHash(t, "Node", Node(bytes32(0), bytes32(32)), "1a378704c17da31e2d05b6d121c2bb2c7d76f6ee6fa8f983e596c2d034963c57")
	isHash(t, "Node of the two turned about", Node(bytes32(32), bytes32(0)), "75b3160d40f98daf06f927b0edbe101a10aa17ab2304e862e8951fef1385c6b0")
}

func TestLeavesAndNodesAreTheirBytesSums(t *testing.T) {
	for i := range 300 {
		s := some(i, uint64(i))
		if got, want := Leaf(s), sha.Sum("\x00"+s); got != want {
			t.Errorf("Leaf of %x: %x, not %x", s, got, want)
		}
		a, b := api.Hash([]byte(some(32, uint64(i)))), api.Hash([]byte(some(32, uint64(i)+1000)))
		if got, want := Node(a, b), sha.Sum("\x01"+string(a[:])+string(b[:])); got != want {
			t.Errorf("Node of %x and %x: %x, not %x", a, b, got, want)
		}
		// An entry that is the bytes of two hashes is no node.
		if Leaf(string(a[:])+string(b[:])) == Node(a, b) {
			t.Errorf("%x and %x: a leaf is a node", a, b)
		}
	}
}

func TestSplit(t *testing.T) {
	for n, want := range map[int]int{
		math.MinInt: 0, math.MinInt + 1: 0, -1 << 62: 0, -3: 0, -2: 0, -1: 0, 0: 0, 1: 0,
		2: 1, 3: 2, 4: 2, 5: 4, 6: 4, 7: 4, 8: 4, 9: 8, 15: 8, 16: 8, 17: 16, 100: 64, 4095: 2048, 4096: 2048, 4097: 4096,
		math.MaxInt - 1: 1 << 62, math.MaxInt: 1 << 62,
	} {
		if got := Split(n); got != want {
			t.Errorf("Split of %d: %d, not %d", n, got, want)
		}
	}
	for i := 1; i < 63; i++ {
		k := 1 << i
		if Split(k) != k/2 || Split(k+1) != k {
			t.Errorf("Split of %d, and of one more: %d, %d", k, Split(k), Split(k+1))
		}
		if i > 1 && Split(k-1) != k/2 {
			t.Errorf("Split of %d: %d", k-1, Split(k-1))
		}
		if Split(-k) != 0 {
			t.Errorf("Split of %d: %d", -k, Split(-k))
		}
	}
}

func TestSplitIsTheGreatestPowerBelow(t *testing.T) {
	for n := range 5000 {
		want := 0
		for k := 1; k < n; k *= 2 {
			want = k
		}
		if got := Split(n); got != want {
			t.Errorf("Split of %d: %d, not %d", n, got, want)
		}
	}
}

func TestRoot(t *testing.T) {
	l := leaves(4096)
	for n, want := range map[int]string{
		0:    "e3b0c44298fc1c149afbf4c8996fb92427ae41e4649b934ca495991b7852b855",
		1:    "db3426e878068d28d269b6c87172322ce5372b65756d0789001d34835f601c03",
		2:    "cb00989d94a569c0a678ae042b63dcd4625db96440517f37a6eb7976ea24ed4b",
		3:    "725d5230db68f557470dc35f1d8865813acd7ebb07ad152774141decbae71327",
		4:    "9f4a3fc20d4162dc37d4e23d907848731a76043ffff6d69288bf1abfbcff478e",
		5:    "b6748f6ed7a99de7da84fd97e1a3bac6fab8999f4a43695cab9528a2de431147",
		6:    "32805cc5e94134743d0aa580ef2ee332687b687fc2e4e2f72fee1cc712e0ba0c",
		7:    "a3e23b32ccb6bf96d092d165d8aa546e09829de8f03b0e8957581d1e16b92bdf",
		8:    "3b85a9626c1ccb64c6b95ec7fa64888defe2cf12e39e77e10812ce5fcb9cb58e",
		9:    "e10cb99e8a9c48ae8a25e6c37ab3c88e6c93e8cf2a62cf7e4dcac1ea597e77d4",
		15:   "ed9fbf444b8720911036bd67196cf53ac2a9d990ec95c9d51c79fc4b07f4c966",
		16:   "acfca191dcca991f54c07c54700b28ac8625e74614b2dadb96e7ae94694bedc8",
		17:   "1b2243bde9d95f307eb27d826ab93d1d95354d98f78633815a0189158c3a3c95",
		31:   "e0e1f4b5608c8e78fb7e761e0d370bb313d04bf11d447119479aff07733996e2",
		32:   "045771ee374b4f64c06fd3c905f8676c0594d72f062717dfb83b2f20c64772cc",
		33:   "b232d45be7cf6487ff0b521d2d1681b929f1d98fff2dbea2412ada287b98a7a0",
		64:   "391a31ee43d791bbe11932a5a2242719c18874e81cf32f0d8d3d7bf31bfca6b8",
		65:   "8b1a70c7c7fcebc868e5f3ae7c127fc9b1cc13f6d34699976e42592abc233d84",
		100:  "7a1541f5e93292eb40660749ef8f36ef074d30052102fab1abfd03bf09e5685d",
		127:  "cdcefe23d982e0ab33566a015652b3fc50ea5fb71ddfc22ed770ae176621b723",
		128:  "97adc2bae9aeb7162c680d886f079737c48ebe351465acb16a5ffe7dab8ecb69",
		129:  "99bc70eb3851c928d6b5c425537a81c67e5a4c0eea20fe55b888518a7032131c",
		255:  "32f85bcaa87d7bcd05728f09e9aeba350ba6a2f733830087f0597682848be5cb",
		256:  "828515d033c19d8c901f37eccb8aed919667703486f8d2fff1cf7040321c5db1",
		257:  "1eda049a4351d86f76252bd7ec0b7746ad75b7fa0316ad5f541dbda458a312c4",
		1000: "638afa98022925bacfddadb15ef22fd0199c1ac99c2973b6158243d13fce05c2",
		4095: "4c29ea1eff29c565800fd1c66d95c605ce2c21eab4e3a2600aee3701feffa188",
		4096: "5922475ce3e128c476adfd094bbe33d4a515fd2266848485d18b81c80b02843a",
	} {
		isHash(t, fmt.Sprintf("Root of %d", n), Root(l[:n]), want)
	}
}

func TestRootOfFew(t *testing.T) {
	for name, l := range map[string][]api.Hash{"nil": nil, "an empty list": {}, "a list with room": make([]api.Hash, 0, 9)} {
		if got := Root(l); got != sha.Sum("") {
			t.Errorf("Root of %s: %x", name, got)
		}
	}
	a, b, c, d := Leaf("a"), Leaf("b"), Leaf("c"), Leaf("d")
	for name, x := range map[string][2]api.Hash{
		"a":         {Root([]api.Hash{a}), a},
		"zeros":     {Root(make([]api.Hash, 1)), {}},
		"a b":       {Root([]api.Hash{a, b}), Node(a, b)},
		"b a":       {Root([]api.Hash{b, a}), Node(b, a)},
		"a a":       {Root([]api.Hash{a, a}), Node(a, a)},
		"a b c":     {Root([]api.Hash{a, b, c}), Node(Node(a, b), c)},
		"a b c d":   {Root([]api.Hash{a, b, c, d}), Node(Node(a, b), Node(c, d))},
		"a b c d a": {Root([]api.Hash{a, b, c, d, a}), Node(Node(Node(a, b), Node(c, d)), a)},
	} {
		if x[0] != x[1] {
			t.Errorf("Root of %s: %x, not %x", name, x[0], x[1])
		}
	}
}

func TestRootIsTheHalvesNode(t *testing.T) {
	l := leaves(300)
	for n := range l {
		if got, want := Root(l[:n]), levelled(l[:n]); got != want {
			t.Errorf("Root of %d: %x, not %x", n, got, want)
		}
		if n < 2 {
			continue
		}
		k := Split(n)
		if got, want := Root(l[:n]), Node(Root(l[:k]), Root(l[k:n])); got != want {
			t.Errorf("Root of %d: %x, not %x", n, got, want)
		}
	}
	// More than a log has: a list has no limit here.
	more := leaves(api.MaxEntries + 1)
	if got, want := Root(more), Node(Root(more[:api.MaxEntries]), more[api.MaxEntries]); got != want {
		t.Errorf("Root of %d: %x, not %x", len(more), got, want)
	}
	same := make([]api.Hash, 1025)
	if got, want := Root(same), levelled(same); got != want {
		t.Errorf("Root of %d alike: %x, not %x", len(same), got, want)
	}
}

func TestPowersOfTwoAndThenOthers(t *testing.T) {
	l := leaves(260)
	for k := 1; k <= 128; k *= 2 {
		for others := 1; others <= k; others++ {
			got, want := Root(l[:k+others]), Node(Root(l[:k]), Root(l[k:k+others]))
			if got != want {
				t.Errorf("Root of %d and %d: %x, not %x", k, others, got, want)
			}
		}
	}
}

func TestAnotherLeafMakesAnotherRoot(t *testing.T) {
	seen := map[api.Hash]string{}
	look := func(what string, h api.Hash) {
		if other, ok := seen[h]; ok {
			t.Errorf("%s and %s have one root", what, other)
		}
		seen[h] = what
	}
	for n := range 70 {
		l := leaves(n)
		look(fmt.Sprint(n), Root(l))
		for i := range l {
			was := l[i]
			l[i] = Leaf("another")
			look(fmt.Sprint(n, " with another at ", i), Root(l))
			l[i] = was
		}
	}
	l := leaves(5)
	for i := range l {
		for bit := range 256 {
			l[i][bit/8] ^= 1 << (bit % 8)
			look(fmt.Sprint("the bit ", bit, " of ", i), Root(l))
			l[i][bit/8] ^= 1 << (bit % 8)
		}
		for j := range i {
			l[i], l[j] = l[j], l[i]
			look(fmt.Sprint(i, " and ", j, " turned about"), Root(l))
			l[i], l[j] = l[j], l[i]
		}
	}
}

func TestListsStayAsTheyWere(t *testing.T) {
	for _, n := range []int{0, 1, 2, 3, 7, 8, 9, 33} {
		roomy := append(make([]api.Hash, 0, 64), leaves(n)...)
		h := Root(roomy)
		if !slices.Equal(roomy, leaves(n)) || roomy[:64][63] != (api.Hash{}) || roomy[:n+1][n] != (api.Hash{}) {
			t.Errorf("Root changed %d leaves, or what is behind them", n)
		}
		for i := range roomy {
			roomy[i] = api.Hash{}
		}
		Root(roomy)
		if again := Root(leaves(n)); again != h {
			t.Errorf("Root of the same %d: %x, then %x", n, h, again)
		}
	}
}

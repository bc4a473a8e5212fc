package paths

import (
	"encoding/hex"
	"fmt"
	"math"
	"math/rand"
	"slices"
	"strconv"
	"testing"

	"speculum/api"
	"speculum/trees"
)

// leaves are those of the entries 0, 1, 2 and so on, as texts; the hashes of them that stand below are from another program.
func leaves(n int) []api.Hash {
	l := make([]api.Hash, n)
	for i := range l {
		l[i] = trees.Leaf(strconv.Itoa(i))
	}
	return l
}

// marked are hashes that are no leaves', each of its own number.
func marked(n int) []api.Hash {
	l := make([]api.Hash, n)
	for i := range l {
		l[i] = api.Hash{byte(i), byte(i >> 8), 7}
	}
	return l
}

// texts are hashes to the base 16.
func texts(l []api.Hash) []string {
	var s []string
	for _, h := range l {
		s = append(s, fmt.Sprintf("%x", h))
	}
	return s
}

// half is the greatest power of two below n, which is 2 or more.
func half(n int) int {
	k := 1 << 14
	for k >= n {
		k /= 2
	}
	return k
}

// pathOf is the path of the leaf i by the chapter's words.
func pathOf(l []api.Hash, i int) []api.Hash {
	if len(l) == 1 {
		return nil
	}
	k := half(len(l))
	if i < k {
		return append(pathOf(l[:k], i), trees.Root(l[k:]))
	}
	return append(pathOf(l[k:], i-k), trees.Root(l[:k]))
}

// trunk are the roots of all the trees that the leaf i is in, from itself up.
func trunk(l []api.Hash, i int) []api.Hash {
	if len(l) == 1 {
		return []api.Hash{l[0]}
	}
	k := half(len(l))
	if i < k {
		return append(trunk(l[:k], i), trees.Root(l))
	}
	return append(trunk(l[k:], i-k), trees.Root(l))
}

// comesTo is what a leaf, a number i among n and a path come to by the chapter's words, and whether it is something.
func comesTo(leaf api.Hash, i, n int, path []api.Hash) (api.Hash, bool) {
	if n == 1 {
		return leaf, len(path) == 0
	}
	if len(path) == 0 {
		return api.Hash{}, false
	}
	k, last := half(n), len(path)-1
	if i < k {
		h, ok := comesTo(leaf, i, k, path[:last])
		return trees.Node(h, path[last]), ok
	}
	h, ok := comesTo(leaf, i-k, n-k, path[:last])
	return trees.Node(path[last], h), ok
}

// sizes are all numbers of leaves up to 40, and those round greater powers of two.
func sizes() []int {
	var l []int
	for n := 1; n <= 40; n++ {
		l = append(l, n)
	}
	for k := 64; k <= api.MaxEntries; k *= 4 {
		l = append(l, k-1, k)
		if k < api.MaxEntries {
			l = append(l, k+1, k+k/2)
		}
	}
	return append(l, 2733, 4094)
}

// places are all numbers of few leaves; of many the first and the last ones, those round the first half's end, and the powers of two.
func places(n int) []int {
	var l []int
	for i := range n {
		few := n <= 40 || i < 2 || i >= n-2
		if few || i == half(n)-1 || i == half(n) || i&(i-1) == 0 {
			l = append(l, i)
		}
	}
	return l
}

// isPath looks at what Path told, that was to tell a path.
func isPath(t *testing.T, what string, l []api.Hash, i int, want []api.Hash) {
	t.Helper()
	if p, e := Path(l, i); e != api.OK || !slices.Equal(p, want) {
		t.Errorf("Path of %s: error %d, %v, not %v", what, e, texts(p), texts(want))
	}
}

// isChecked looks at what Check told.
func isChecked(t *testing.T, what string, leaf api.Hash, i, n int, path []api.Hash, root api.Hash, want api.Errno) {
	t.Helper()
	if e := Check(leaf, i, n, path, root); e != want {
		t.Errorf("Check of %s (%d among %d): %d, not %d", what, i, n, e, want)
	}
}

// verdict is what Check tells of what holds, or does not.
func verdict(holds bool) api.Errno {
	if holds {
		return api.OK
	}
	return api.ErrProof
}

func TestExamples(t *testing.T) {
	l := marked(5)
	a, b, c, d, e := l[0], l[1], l[2], l[3], l[4]
	ab := trees.Node(a, b)
	abcd := trees.Node(ab, trees.Node(c, d))
	root := trees.Node(abcd, e)
	isPath(t, "2", l, 2, []api.Hash{d, ab, e})
	isPath(t, "4", l, 4, []api.Hash{abcd})
	if p, err := Path(l, 5); err != api.ErrArg || len(p) != 0 {
		t.Errorf("Path of 5: error %d, %v", err, texts(p))
	}
	isChecked(t, "e", e, 4, 5, []api.Hash{abcd}, root, api.OK)
	isChecked(t, "c, with that of e", c, 2, 5, []api.Hash{abcd}, root, api.ErrProof)
	isChecked(t, "c", c, 2, 5, []api.Hash{d, ab, e}, root, api.OK)
}

// told are paths as another program told them, by how many leaves there are and a leaf's number.
func told() map[[2]int][]string {
	return map[[2]int][]string{
		{1, 0}: {},
		{2, 0}: {
			"2215e8ac4e2b871c2a48189e79738c956c081e23ac2f2415bf77da199dfd920c",
		},
		{2, 1}: {
			"db3426e878068d28d269b6c87172322ce5372b65756d0789001d34835f601c03",
		},
		{3, 1}: {
			"db3426e878068d28d269b6c87172322ce5372b65756d0789001d34835f601c03",
			"fa61e3dec3439589f4784c893bf321d0084f04c572c7af2b68e3f3360a35b486",
		},
		{3, 2}: {
			"cb00989d94a569c0a678ae042b63dcd4625db96440517f37a6eb7976ea24ed4b",
		},
		{5, 2}: {
			"906c5d2485cae722073a430f4d04fe1767507592cef226629aeadb85a2ec909d",
			"cb00989d94a569c0a678ae042b63dcd4625db96440517f37a6eb7976ea24ed4b",
			"11e1f558223f4c71b6be1cecfd1f0de87146d2594877c27b29ec519f9040213c",
		},
		{5, 4}: {
			"9f4a3fc20d4162dc37d4e23d907848731a76043ffff6d69288bf1abfbcff478e",
		},
		{7, 5}: {
			"11e1f558223f4c71b6be1cecfd1f0de87146d2594877c27b29ec519f9040213c",
			"3bf9c81c231cae70b678d3f3038f9f4f6d6b9d7adcf9b378f25919ae53d17686",
			"9f4a3fc20d4162dc37d4e23d907848731a76043ffff6d69288bf1abfbcff478e",
		},
		{8, 0}: {
			"2215e8ac4e2b871c2a48189e79738c956c081e23ac2f2415bf77da199dfd920c",
			"d51f2dfecb59566dabdbb6b40bf651cdf39e677b4425165e217590ff3e010edb",
			"31f2973ab63e19375dfe0d165a92ebd9a13d28b5e6fc78072c4068bd7bbfbc37",
		},
		{8, 7}: {
			"3bf9c81c231cae70b678d3f3038f9f4f6d6b9d7adcf9b378f25919ae53d17686",
			"d2737dce8a7df1d7d5cf4d5f52d274802c71bfe20a2e078682e71c182d398c90",
			"9f4a3fc20d4162dc37d4e23d907848731a76043ffff6d69288bf1abfbcff478e",
		},
		{9, 8}: {
			"3b85a9626c1ccb64c6b95ec7fa64888defe2cf12e39e77e10812ce5fcb9cb58e",
		},
		{100, 50}: {
			"b4fd0e43d1e038fa0f0bd1108bae2c5194f964f21be8ee3632f87611c2a8d883",
			"ed1a96599b239dd70d4ecef87ed1b5ddc297193ba96346462aa52015f4571eb0",
			"4b5e60a168f629a32b1fb05736257d4c51ee649ab6ecf3efc7eccd974b671264",
			"89f088daba3cfd61003af36f11a7718bae31edf7fa9cc0dbf47d9be03b146f00",
			"d75b6da00b084aea2e991897f11bfee82c5bad6a739e9dcb180db5537f68a659",
			"045771ee374b4f64c06fd3c905f8676c0594d72f062717dfb83b2f20c64772cc",
			"92c02a59225547a5960559f96ab08448d5a95b1f6973bc8a961bec1edb227fdd",
		},
		{100, 97}: {
			"cd3ead864dd12d097adfba75b080f87df62992c524840b40e613dd4f1a90c61a",
			"5aa049394f9900340e9d90a1e413dfcd4d2dc2b676d8baf7ff33e7cb984b1c09",
			"712da138c00a40ad99c4d60624ef32bf8355668cd95beb47f45222e8b87225f7",
			"391a31ee43d791bbe11932a5a2242719c18874e81cf32f0d8d3d7bf31bfca6b8",
		},
		{1000, 999}: {
			"9b34d8e2157c6a370a53ce698fe9ad0bcfe3207d5798743ba3508b69dc329c79",
			"e799a90f1dcbdddd9cde2c1d526cdea07e62265ea914330a0c1e8ef79bb40b94",
			"8614002a01e417958a7fd8cf7e24485234901c04f097ed7cdcc73eacd3401277",
			"3d970bcbdf6adf6fbaf0917e85e3ec0d7d72a2c528fa7fdb6045bdb3e5c184d8",
			"2863fce8cbd8de6bfad87d355dba151dd54adfa5ecd8c48dd74e0829ade517e8",
			"1519dc258fa6deea0c66b0950913a6970f24c85e7a21ea258bfe0f42c5c9dde2",
			"018d5c25e9bbb4d832e744818f90071116788d2603cd4d7be2f5debd9ba548aa",
			"d4b2162495ca609dc06390d353ca0c55107765c609e0226eb747d89105dc8d55",
		},
		{4095, 4092}: {
			"8fa37f00dc51ac398609d66dba6e0b9632507c864b7aa99555ca758466ac5e26",
			"962c2d1aa64d66e5c1bf416c47c6b62a9978af061fd28cb052a1e91d664dd895",
			"e4892fc6a53161b3b4bc2c06f89621b9567c833183ffbc8a373aa8e52067a873",
			"c1b464be94fd6ac9c86dbd93f84ecc7940eaa2f9a9ffb16f673d37f64e12fe10",
			"5cea5981c4a8db633abf2a098db6a2f0dc471eeaa915a83d65677c33be5b63b6",
			"24b22240ce1ec0bb3ae64ecf802116c369dab8e43f157b5c83c98cc51d27a54d",
			"07f1331e6a4315b214ebe6ad9892c4ebaac1be97de0a83d7b6ccdb0692043016",
			"8b34f984ef80fafea8a1402cc473ae25920f88f892f9203d9fd247d580e11b34",
			"de8d5cb69532eadebb101e2737d4ed9526de021682695ad73d299114e2a89dfd",
			"fcb5212b43eec4f24d1e894449f40e8d3a8eef50ac9632cb0546ee4e34d7d1f6",
			"fcd5afbd41ea4aceb8ffe998f6d48d7df41fa52ae39eb7b3815c355f62ad9542",
			"c7444f52c6cb22152a040b6afe1fd93febd500dfd637eea67a1491fedf9ae623",
		},
		{4095, 4094}: {
			"2404192646491780213ca7a427c8cc441cb12f9f3064232f70a99bd9b19b7b91",
			"e4892fc6a53161b3b4bc2c06f89621b9567c833183ffbc8a373aa8e52067a873",
			"c1b464be94fd6ac9c86dbd93f84ecc7940eaa2f9a9ffb16f673d37f64e12fe10",
			"5cea5981c4a8db633abf2a098db6a2f0dc471eeaa915a83d65677c33be5b63b6",
			"24b22240ce1ec0bb3ae64ecf802116c369dab8e43f157b5c83c98cc51d27a54d",
			"07f1331e6a4315b214ebe6ad9892c4ebaac1be97de0a83d7b6ccdb0692043016",
			"8b34f984ef80fafea8a1402cc473ae25920f88f892f9203d9fd247d580e11b34",
			"de8d5cb69532eadebb101e2737d4ed9526de021682695ad73d299114e2a89dfd",
			"fcb5212b43eec4f24d1e894449f40e8d3a8eef50ac9632cb0546ee4e34d7d1f6",
			"fcd5afbd41ea4aceb8ffe998f6d48d7df41fa52ae39eb7b3815c355f62ad9542",
			"c7444f52c6cb22152a040b6afe1fd93febd500dfd637eea67a1491fedf9ae623",
		},
		{4096, 0}: {
			"2215e8ac4e2b871c2a48189e79738c956c081e23ac2f2415bf77da199dfd920c",
			"d51f2dfecb59566dabdbb6b40bf651cdf39e677b4425165e217590ff3e010edb",
			"31f2973ab63e19375dfe0d165a92ebd9a13d28b5e6fc78072c4068bd7bbfbc37",
			"404f01deabfce702b8bdc982374a9b5e3796e49c3c8461411e4dd1dcccd7385b",
			"f30f4fa56ad05b7153ba8fa74dceb5b41b56c478fcacfcaf9994adfd14aac5be",
			"3b9a58abb05cd3a37b1c82fbfeba409fd9f346c46cca526b647f7875ea01ec36",
			"d2ed5e687d720e8b2e0e9312da6b76f4b395f1d441e6570db0da6ad105168303",
			"99ea324be0fde9bd63bb057d10be138a726e2e3fe03c8677d5b7a684b6bd26ca",
			"7d95b32750f4c12f0db0772ae4f8947ce20d46166d985c23fa20afe94bc7940b",
			"51f412ce944770a4ae4b9be80d8017dcfbc21c20291c2a7210527834f0e01a2c",
			"da9eaec7a24616e53df49d05805f8253488bd4d004f734658dec703a2d90be3f",
			"2adf00c63cba9e5faa374778632c97a3c25f2eea2c843c5e3306dbf481c22124",
		},
		{4096, 1365}: {
			"9b47d69189d0023f353332bd1a1695f9fdabc51f628ba7027acb2adf617334dd",
			"a1586559d40cb91fbde2a944ab590ecbced2c59a8c46c013037b6cb475bd6872",
			"546153df6be4321ba047ee44b51c1a8ab97cb0e79478dbb468a1d2dfde15b505",
			"82f5e49d063ff4b97c60ab33b6d9a7a306d37c5c9f83c697388ee05f6bffb1b2",
			"e112eb7e5176caf5282046f30b4df2a4afa77ba3386cd203f45c9428511f541d",
			"4394b1c49706c025d28444a0661af74884b247bd35bb531e40a840b921d605d8",
			"fe10337669393abb0894ee5ce5e3e3a0a577122f7f968724c5ac652a57095554",
			"e4dd62d2fe3ee13713bb67890cacbf7ad18ed8329b180fcd4c5b38dfd2d882b3",
			"cf5978648764f009b34c4f280ade7256b9fe0c45a990935d18ddabd59a322932",
			"521d29e23694a5733a979d64ec6e871ee00880f92a75c21d8a73b49c4178142d",
			"7d9c2efa0634b76157b60c07696b4753ac25b1fd324539fccd5d2c638a8c02b9",
			"2adf00c63cba9e5faa374778632c97a3c25f2eea2c843c5e3306dbf481c22124",
		},
		{4096, 4095}: {
			"962c2d1aa64d66e5c1bf416c47c6b62a9978af061fd28cb052a1e91d664dd895",
			"2404192646491780213ca7a427c8cc441cb12f9f3064232f70a99bd9b19b7b91",
			"e4892fc6a53161b3b4bc2c06f89621b9567c833183ffbc8a373aa8e52067a873",
			"c1b464be94fd6ac9c86dbd93f84ecc7940eaa2f9a9ffb16f673d37f64e12fe10",
			"5cea5981c4a8db633abf2a098db6a2f0dc471eeaa915a83d65677c33be5b63b6",
			"24b22240ce1ec0bb3ae64ecf802116c369dab8e43f157b5c83c98cc51d27a54d",
			"07f1331e6a4315b214ebe6ad9892c4ebaac1be97de0a83d7b6ccdb0692043016",
			"8b34f984ef80fafea8a1402cc473ae25920f88f892f9203d9fd247d580e11b34",
			"de8d5cb69532eadebb101e2737d4ed9526de021682695ad73d299114e2a89dfd",
			"fcb5212b43eec4f24d1e894449f40e8d3a8eef50ac9632cb0546ee4e34d7d1f6",
			"fcd5afbd41ea4aceb8ffe998f6d48d7df41fa52ae39eb7b3815c355f62ad9542",
			"c7444f52c6cb22152a040b6afe1fd93febd500dfd637eea67a1491fedf9ae623",
		},
	}
}

// toldRoots are roots as another program told them, by how many leaves there are.
func toldRoots() map[int]string {
	return map[int]string{
		1:    "db3426e878068d28d269b6c87172322ce5372b65756d0789001d34835f601c03",
		2:    "cb00989d94a569c0a678ae042b63dcd4625db96440517f37a6eb7976ea24ed4b",
		3:    "725d5230db68f557470dc35f1d8865813acd7ebb07ad152774141decbae71327",
		5:    "b6748f6ed7a99de7da84fd97e1a3bac6fab8999f4a43695cab9528a2de431147",
		7:    "a3e23b32ccb6bf96d092d165d8aa546e09829de8f03b0e8957581d1e16b92bdf",
		8:    "3b85a9626c1ccb64c6b95ec7fa64888defe2cf12e39e77e10812ce5fcb9cb58e",
		9:    "e10cb99e8a9c48ae8a25e6c37ab3c88e6c93e8cf2a62cf7e4dcac1ea597e77d4",
		100:  "7a1541f5e93292eb40660749ef8f36ef074d30052102fab1abfd03bf09e5685d",
		1000: "638afa98022925bacfddadb15ef22fd0199c1ac99c2973b6158243d13fce05c2",
		4095: "4c29ea1eff29c565800fd1c66d95c605ce2c21eab4e3a2600aee3701feffa188",
		4096: "5922475ce3e128c476adfd094bbe33d4a515fd2266848485d18b81c80b02843a",
	}
}

// unhex is the hash that a text tells to the base 16.
func unhex(t *testing.T, s string) api.Hash {
	t.Helper()
	b, err := hex.DecodeString(s)
	if err != nil || len(b) != 32 {
		t.Fatalf("no hash: %s", s)
	}
	return api.Hash(b)
}

func TestPathAsAnotherProgramTold(t *testing.T) {
	l := leaves(api.MaxEntries)
	for x, want := range told() {
		p, e := Path(l[:x[0]], x[1])
		if e != api.OK || !slices.Equal(texts(p), want) {
			t.Errorf("Path of %d among %d: error %d, %v, not %v", x[1], x[0], e, texts(p), want)
		}
	}
}

func TestCheckAsAnotherProgramTold(t *testing.T) {
	for x, s := range told() {
		var p []api.Hash
		for _, h := range s {
			p = append(p, unhex(t, h))
		}
		n, i := x[0], x[1]
		leaf, root := trees.Leaf(strconv.Itoa(i)), unhex(t, toldRoots()[n])
		isChecked(t, "a path that was told", leaf, i, n, p, root, api.OK)
		isChecked(t, "another leaf", trees.Leaf("another"), i, n, p, root, api.ErrProof)
	}
}

func TestPath(t *testing.T) {
	l := leaves(api.MaxEntries)
	for _, n := range sizes() {
		for _, i := range places(n) {
			want := pathOf(l[:n], i)
			isPath(t, fmt.Sprint(i, " among ", n), l[:n], i, want)
			if len(want) > 12 {
				t.Errorf("%d among %d: a path of %d hashes", i, n, len(want))
			}
		}
	}
}

func TestPathOfOneLeaf(t *testing.T) {
	for _, leaf := range append(marked(3), api.Hash{}, trees.Leaf("")) {
		isPath(t, "one leaf", []api.Hash{leaf}, 0, nil)
	}
}

func TestPathOfLeavesAlike(t *testing.T) {
	l := make([]api.Hash, 33)
	for i := range l {
		isPath(t, fmt.Sprint(i, " among 33 alike"), l, i, pathOf(l, i))
		isChecked(t, "one of 33 alike", l[i], i, 33, pathOf(l, i), trees.Root(l), api.OK)
	}
}

func TestPathOfMoreThanALogHas(t *testing.T) {
	// A list has no limit here; a check has.
	l := marked(2*api.MaxEntries + 1)
	for _, n := range []int{4097, 4098, 8191, 8192, 8193} {
		for _, i := range []int{0, 1, 4095, 4096, n - 1} {
			isPath(t, fmt.Sprint(i, " among ", n), l[:n], i, pathOf(l[:n], i))
			isChecked(t, "too many", l[i], i, n, pathOf(l[:n], i), trees.Root(l[:n]), api.ErrArg)
		}
	}
}

func TestPathOfNoLeaf(t *testing.T) {
	for _, n := range []int{0, 1, 2, 3, 4, 5, 40, 4095, 4096, 4097} {
		for _, i := range []int{-1, -2, -n, -n - 1, n, n + 1, 2*n + 1, 1 << 31, 1 << 32, 1<<32 + 1, -1 << 32, 1 << 62, math.MinInt, math.MinInt + 1, math.MaxInt} {
			if i >= 0 && i < n {
				continue
			}
			if p, e := Path(marked(n), i); e != api.ErrArg || len(p) != 0 {
				t.Errorf("Path of %d among %d: error %d, %v", i, n, e, texts(p))
			}
		}
	}
	for _, i := range []int{-1, 0, 1} {
		if p, e := Path(nil, i); e != api.ErrArg || len(p) != 0 {
			t.Errorf("Path of %d among none: error %d, %v", i, e, texts(p))
		}
		if p, e := Path(marked(9)[:0], i); e != api.ErrArg || len(p) != 0 {
			t.Errorf("Path of %d among none, with room: error %d, %v", i, e, texts(p))
		}
	}
}

func TestCheckTakesEachLeaf(t *testing.T) {
	l := leaves(api.MaxEntries)
	for _, n := range sizes() {
		root := trees.Root(l[:n])
		for _, i := range places(n) {
			p, e := Path(l[:n], i)
			if e != api.OK {
				t.Fatalf("Path of %d among %d: error %d", i, n, e)
			}
			isChecked(t, "its path", l[i], i, n, p, root, api.OK)
		}
	}
}

func TestCheckOfOneLeaf(t *testing.T) {
	for _, leaf := range append(marked(3), api.Hash{}) {
		isChecked(t, "one leaf", leaf, 0, 1, nil, leaf, api.OK)
		isChecked(t, "one leaf, an empty path", leaf, 0, 1, []api.Hash{}, leaf, api.OK)
		other := trees.Leaf("another")
		isChecked(t, "one leaf, another root", leaf, 0, 1, nil, other, api.ErrProof)
		isChecked(t, "another leaf", other, 0, 1, nil, leaf, api.ErrProof)
		for _, p := range [][]api.Hash{{leaf}, {{}}, {other}, {leaf, leaf}} {
			for _, root := range []api.Hash{leaf, other, {}, trees.Node(leaf, p[0]), trees.Node(p[0], leaf)} {
				isChecked(t, "one leaf with a path", leaf, 0, 1, p, root, api.ErrProof)
			}
		}
	}
}

func TestCheckOfNumbersThatMayNotBe(t *testing.T) {
	l := marked(api.MaxEntries)
	far := []int{1 << 31, 1 << 32, 1<<32 + 1, -1 << 32, 1 << 62, math.MinInt, math.MinInt + 1, math.MaxInt - 1, math.MaxInt}
	look := func(i, n int, root api.Hash) {
		// Whatever the path is, and if it comes to nothing, too: that the numbers may not be is named first.
		for _, p := range [][]api.Hash{nil, {l[1]}, l[:2], l[:12], l[:13], l} {
			isChecked(t, "numbers that may not be", l[0], i, n, p, root, api.ErrArg)
		}
	}
	for _, n := range append([]int{0, -1, -2, -4096, 4097, 4098, 8192}, far...) {
		for _, i := range append([]int{-1, 0, 1, 2, 4095, 4096, n - 1, n, n + 1}, far...) {
			look(i, n, l[0])
			look(i, n, trees.Root(nil))
		}
	}
	for _, n := range []int{1, 2, 3, 4, 5, 8, 4095, 4096} {
		root := trees.Root(l[:n])
		for _, i := range append([]int{-1, -2, -n, -n - 1, n, n + 1, 2 * n, 4097}, far...) {
			look(i, n, root)
			isChecked(t, "the last path with another number", l[n-1], i, n, pathOf(l[:n], n-1), root, api.ErrArg)
			isChecked(t, "the first path with another number", l[0], i, n, pathOf(l[:n], 0), root, api.ErrArg)
		}
	}
}

func TestCheckOfAnotherLeaf(t *testing.T) {
	for _, n := range []int{1, 2, 3, 5, 7, 8, 13} {
		l := leaves(n)
		root := trees.Root(l)
		for i := range l {
			p := pathOf(l, i)
			for j := range l {
				if j != i {
					isChecked(t, fmt.Sprint("the leaf ", j), l[j], i, n, p, root, api.ErrProof)
				}
			}
			for bit := range 256 {
				leaf := l[i]
				leaf[bit/8] ^= 1 << (bit % 8)
				isChecked(t, fmt.Sprint("a leaf whose bit is turned, ", bit), leaf, i, n, p, root, api.ErrProof)
			}
			for _, leaf := range []api.Hash{{}, root, trees.Root(nil)} {
				if leaf != l[i] {
					isChecked(t, "no leaf", leaf, i, n, p, root, api.ErrProof)
				}
			}
		}
	}
}

func TestCheckOfAnotherNumber(t *testing.T) {
	l := leaves(api.MaxEntries)
	for _, n := range sizes() {
		if n > 40 && n < 4095 {
			continue
		}
		root := trees.Root(l[:n])
		for _, i := range places(n) {
			p := pathOf(l[:n], i)
			for _, j := range places(n) {
				if j != i {
					isChecked(t, fmt.Sprint("the path of ", i), l[i], j, n, p, root, api.ErrProof)
					isChecked(t, fmt.Sprint("the path of ", i, " with another leaf, too"), l[j], j, n, p, root, api.ErrProof)
				}
			}
		}
	}
}

func TestCheckOfAnotherNumberOfLeaves(t *testing.T) {
	l := leaves(24)
	for n := 1; n <= len(l); n++ {
		for i := range n {
			p, root := pathOf(l[:n], i), trees.Root(l[:n])
			for m := i + 1; m <= len(l); m++ {
				// With as many the path may stand at the same places: then these come to the same.
				want := api.ErrProof
				if h, ok := comesTo(l[i], i, m, p); ok && h == root {
					want = api.OK
				}
				isChecked(t, fmt.Sprint("the path among ", n), l[i], i, m, p, root, want)
				if m != n {
					isChecked(t, fmt.Sprint("the path among ", n, " with another root"), l[i], i, m, p, trees.Root(l[:m]), api.ErrProof)
				}
			}
		}
	}
}

func TestCheckOfAnotherHash(t *testing.T) {
	for _, n := range []int{2, 3, 5, 7, 8, 13, 100} {
		l := leaves(n)
		root := trees.Root(l)
		for _, i := range []int{0, 1, n / 2, n - 2, n - 1} {
			p := pathOf(l, i)
			for j := range p {
				for bit := range 256 {
					p[j][bit/8] ^= 1 << (bit % 8)
					isChecked(t, fmt.Sprint("the bit ", bit, " of the hash ", j, " turned"), l[i], i, n, p, root, api.ErrProof)
					p[j][bit/8] ^= 1 << (bit % 8)
				}
				for k := range j {
					p[j], p[k] = p[k], p[j]
					isChecked(t, fmt.Sprint("the hashes ", j, " and ", k, " turned about"), l[i], i, n, p, root, api.ErrProof)
					p[j], p[k] = p[k], p[j]
				}
			}
			isChecked(t, "the path as it was", l[i], i, n, p, root, api.OK)
		}
	}
}

func TestCheckOfAnotherRoot(t *testing.T) {
	for _, n := range []int{1, 2, 3, 5, 8, 13} {
		l := leaves(n)
		for i := range l {
			p, root := pathOf(l, i), trees.Root(l)
			for bit := range 256 {
				root[bit/8] ^= 1 << (bit % 8)
				isChecked(t, fmt.Sprint("the bit ", bit, " of the root turned"), l[i], i, n, p, root, api.ErrProof)
				root[bit/8] ^= 1 << (bit % 8)
			}
			others := append([]api.Hash{{}, trees.Root(nil)}, p...)
			for _, h := range append(others, trunk(l, i)...) {
				if h != root {
					isChecked(t, "another root", l[i], i, n, p, h, api.ErrProof)
				}
			}
		}
	}
}

func TestCheckOfOneMore(t *testing.T) {
	l := leaves(api.MaxEntries)
	for _, n := range sizes() {
		root := trees.Root(l[:n])
		for _, i := range []int{0, n / 3, n / 2, n - 1} {
			p := pathOf(l[:n], i)
			for at := range len(p) + 1 {
				for _, more := range []api.Hash{{}, l[i], l[0], root, trees.Root(nil)} {
					longer := slices.Insert(slices.Clone(p), at, more)
					what := fmt.Sprint("one more at ", at)
					for _, h := range []api.Hash{root, {}, trees.Node(root, more), trees.Node(more, root)} {
						isChecked(t, what, l[i], i, n, longer, h, api.ErrProof)
					}
				}
			}
			isChecked(t, "twice the path", l[i], i, n, append(slices.Clone(p), p...), root, verdict(len(p) == 0))
		}
	}
}

func TestCheckOfOneLess(t *testing.T) {
	l := leaves(api.MaxEntries)
	for _, n := range sizes() {
		for _, i := range []int{0, n / 3, n / 2, n - 1} {
			p, up := pathOf(l[:n], i), trunk(l[:n], i)
			root := trees.Root(l[:n])
			for at := range p {
				isChecked(t, fmt.Sprint("one less at ", at), l[i], i, n, slices.Delete(slices.Clone(p), at, at+1), root, api.ErrProof)
				// What the first ones come to is the root of another tree that the leaf is in.
				for _, h := range []api.Hash{up[at], root, {}, l[i]} {
					isChecked(t, fmt.Sprint("the first ", at), l[i], i, n, p[:at], h, api.ErrProof)
				}
				isChecked(t, fmt.Sprint("all from ", at+1, " on"), l[i], i, n, p[at+1:], root, api.ErrProof)
			}
		}
	}
}

func TestCheckOfManyMore(t *testing.T) {
	many := make([]api.Hash, 1<<18)
	for _, n := range []int{1, 2, 3, 5, 4095, 4096} {
		l := marked(n)
		root := trees.Root(l)
		for _, i := range []int{0, n / 2, n - 1} {
			p := append(pathOf(l, i), many...)
			isChecked(t, "many more", l[i], i, n, p, root, api.ErrProof)
			isChecked(t, "many", l[i], i, n, many, root, api.ErrProof)
			// Just as many more that their number could seem to be none.
			isChecked(t, "256 more", l[i], i, n, p[:len(p)-len(many)+256], root, api.ErrProof)
			isChecked(t, "65536 more", l[i], i, n, p[:len(p)-len(many)+65536], root, api.ErrProof)
		}
	}
}

func TestCheckIsByTheWords(t *testing.T) {
	p := marked(20)
	leaf := trees.Leaf("a")
	for _, n := range sizes() {
		for _, i := range places(n) {
			for k := range 15 {
				root, ok := comesTo(leaf, i, n, p[:k])
				isChecked(t, fmt.Sprint("any ", k, " hashes"), leaf, i, n, p[:k], root, verdict(ok))
			}
		}
	}
}

func TestCheckOfAnything(t *testing.T) {
	random := rand.New(rand.NewSource(6))
	few := append(marked(3), api.Hash{}, trees.Leaf("a"), trees.Node(marked(1)[0], marked(2)[1]))
	one := func() api.Hash { return few[random.Intn(len(few))] }
	for range 40000 {
		n, i := random.Intn(12)-2, random.Intn(12)-2
		p := make([]api.Hash, random.Intn(6))
		for j := range p {
			p[j] = one()
		}
		leaf, root, want := one(), one(), api.ErrArg
		if n >= 1 && i >= 0 && i < n {
			h, ok := comesTo(leaf, i, n, p)
			if ok && random.Intn(2) == 0 {
				root = h
			}
			want = verdict(ok && h == root)
		}
		isChecked(t, fmt.Sprint(texts(p)), leaf, i, n, p, root, want)
	}
}

// roomy is a list with room behind it, in which other hashes stand.
func roomy(l []api.Hash) []api.Hash {
	return append(slices.Clone(l), leaves(20)...)[:len(l)]
}

// all are a list's hashes, and those in the room behind it.
func all(l []api.Hash) []api.Hash { return l[:cap(l)] }

func TestListsStayAsTheyWere(t *testing.T) {
	for _, n := range []int{1, 2, 3, 4, 5, 7, 8, 9, 33} {
		l := roomy(marked(n))
		was := slices.Clone(all(l))
		for i := -1; i <= n; i++ {
			Path(l, i)
		}
		for i := range n {
			p := roomy(pathOf(l, i))
			wasPath := slices.Clone(all(p))
			Check(l[i], i, n, p, trees.Root(l))
			Check(l[i], i, n, all(p), trees.Root(l))
			if n > 1 {
				Check(l[i], i, n, p[:len(p)-1], trees.Root(l))
			}
			if !slices.Equal(all(p), wasPath) {
				t.Errorf("%d among %d: Check changed a path, or what is behind it", i, n)
			}
		}
		if !slices.Equal(all(l), was) {
			t.Errorf("%d leaves were changed, or what is behind them", n)
		}
	}
}

func TestPathsThatAreToldAreTheCallersOwn(t *testing.T) {
	for _, n := range []int{2, 3, 4, 5, 7, 8, 9, 33} {
		l := roomy(marked(n))
		was := slices.Clone(all(l))
		for i := range n {
			first, _ := Path(l, i)
			kept := slices.Clone(first)
			second, _ := Path(l, i)
			clear(all(first))
			if !slices.Equal(second, kept) {
				t.Errorf("%d among %d: a path is another one by one that was told ahead", i, n)
			}
			if !slices.Equal(all(l), was) {
				t.Fatalf("%d among %d: leaves are changed by a path that was told", i, n)
			}
			clear(l)
			if !slices.Equal(second, kept) {
				t.Errorf("%d among %d: a path is another one by leaves that were handed in", i, n)
			}
			copy(l, was)
		}
	}
}

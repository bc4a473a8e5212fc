package proofs

import (
	"encoding/hex"
	"fmt"
	"math"
	"math/rand"
	"slices"
	"strconv"
	"testing"

	"speculum/api"
	"speculum/trees"
)

// leaves are those of the entries 0, 1, 2 and so on, as texts; the hashes of them that stand below are from another program.
func leaves(n int) []api.Hash {
	l := make([]api.Hash, n)
	for i := range l {
		l[i] = trees.Leaf(strconv.Itoa(i))
	}
	return l
}

// marked are hashes that are no leaves', each of its own number.
func marked(n int) []api.Hash {
	l := make([]api.Hash, n)
	for i := range l {
		l[i] = api.Hash{byte(i), byte(i >> 8), 8}
	}
	return l
}

// texts are hashes to the base 16.
func texts(l []api.Hash) []string {
	var s []string
	for _, h := range l {
		s = append(s, fmt.Sprintf("%x", h))
	}
	return s
}

// half is the greatest power of two below n, which is 2 or more.
func half(n int) int {
	k := 1 << 14
	for k >= n {
		k /= 2
	}
	return k
}

// power tells whether n, from 1 on, is a power of two.
func power(n int) bool { return n&(n-1) == 0 }

// subProof is the sub-proof of m among leaves by the chapter's words.
func subProof(l []api.Hash, m int, known bool) []api.Hash {
	if m == len(l) {
		if known {
			return nil
		}
		return []api.Hash{trees.Root(l)}
	}
	k := half(len(l))
	if m <= k {
		return append(subProof(l[:k], m, known), trees.Root(l[k:]))
	}
	return append(subProof(l[k:], m-k, false), trees.Root(l[:k]))
}

// proofOf is the proof of m among leaves by the chapter's words.
func proofOf(l []api.Hash, m int) []api.Hash {
	if m == 0 || m == len(l) {
		return nil
	}
	return subProof(l, m, true)
}

// saying is what a proof says of m among n, m from 1 on, by the chapter's words, and whether it is something.
func saying(m, n int, known bool, older api.Hash, p []api.Hash) (first, second api.Hash, ok bool) {
	if m == n && known {
		return older, older, len(p) == 0
	}
	if m == n && len(p) == 1 {
		return p[0], p[0], true
	}
	if m == n || len(p) == 0 {
		return api.Hash{}, api.Hash{}, false
	}
	k, last := half(n), len(p)-1
	if m <= k {
		first, second, ok = saying(m, k, known, older, p[:last])
		return first, trees.Node(second, p[last]), ok
	}
	first, second, ok = saying(m-k, n-k, false, older, p[:last])
	return trees.Node(p[last], first), trees.Node(p[last], second), ok
}

// byWords is what Check tells by the chapter's words of numbers that may be.
func byWords(m, n int, older, newer api.Hash, p []api.Hash) api.Errno {
	switch m {
	case 0:
		return verdict(older == trees.Root(nil) && len(p) == 0 && (n > 0 || newer == older))
	case n:
		return verdict(older == newer && len(p) == 0)
	}
	first, second, ok := saying(m, n, true, older, p)
	return verdict(ok && first == older && second == newer)
}

// sizes are all numbers of leaves up to 40, and those round greater powers of two.
func sizes() []int {
	var l []int
	for n := range 41 {
		l = append(l, n)
	}
	for k := 64; k <= api.MaxEntries; k *= 4 {
		l = append(l, k-1, k)
		if k < api.MaxEntries {
			l = append(l, k+1, k+k/2)
		}
	}
	return append(l, 2733, 4094)
}

// beginnings are all numbers of the first ones of few leaves; of many the least and the greatest ones, those round the first half, and the powers of two.
func beginnings(n int) []int {
	var l []int
	for m := range n + 1 {
		few := n <= 40 || m < 4 || m >= n-3
		if few || m == half(n)-1 || m == half(n)+1 || power(m) {
			l = append(l, m)
		}
	}
	return l
}

// between are the beginnings that are neither of none nor of all.
func between(n int) []int {
	var l []int
	for _, m := range beginnings(n) {
		if m > 0 && m < n {
			l = append(l, m)
		}
	}
	return l
}

// isProof looks at what Proof told, that was to tell a proof.
func isProof(t *testing.T, what string, l []api.Hash, m int, want []api.Hash) {
	t.Helper()
	if p, e := Proof(l, m); e != api.OK || !slices.Equal(p, want) {
		t.Errorf("Proof of %s (%d among %d): error %d, %v, not %v", what, m, len(l), e, texts(p), texts(want))
	}
}

// isChecked looks at what Check told.
func isChecked(t *testing.T, what string, m, n int, older, newer api.Hash, p []api.Hash, want api.Errno) {
	t.Helper()
	if e := Check(m, n, older, newer, p); e != want {
		t.Errorf("Check of %s (%d among %d): %d, not %d", what, m, n, e, want)
	}
}

// verdict is what Check tells of what holds, or does not.
func verdict(holds bool) api.Errno {
	if holds {
		return api.OK
	}
	return api.ErrProof
}

// turned is a hash with a bit that is turned.
func turned(h api.Hash, bit int) api.Hash {
	h[bit/8] ^= 1 << (bit % 8)
	return h
}

func TestExamples(t *testing.T) {
	l := marked(5)
	a, b, c, d, e := l[0], l[1], l[2], l[3], l[4]
	ab := trees.Node(a, b)
	abc, abcd := trees.Node(ab, c), trees.Node(ab, trees.Node(c, d))
	root := trees.Node(abcd, e)
	isProof(t, "3", l, 3, []api.Hash{c, d, ab, e})
	isProof(t, "4", l, 4, []api.Hash{e})
	isProof(t, "5", l, 5, nil)
	isProof(t, "0", l, 0, nil)
	if p, err := Proof(l, 6); err != api.ErrArg || len(p) != 0 {
		t.Errorf("Proof of 6: error %d, %v", err, texts(p))
	}
	isChecked(t, "4, with the second one", 4, 5, abcd, root, []api.Hash{e}, api.OK)
	isChecked(t, "3, with the second one", 3, 5, abc, root, []api.Hash{e}, api.ErrProof)
	isChecked(t, "3", 3, 5, abc, root, []api.Hash{c, d, ab, e}, api.OK)
}

// told are proofs as another program told them, by how many leaves there are and how many the beginning has.
func told() map[[2]int][]string {
	return map[[2]int][]string{
		{2, 1}: {
			"2215e8ac4e2b871c2a48189e79738c956c081e23ac2f2415bf77da199dfd920c",
		},
		{3, 1}: {
			"2215e8ac4e2b871c2a48189e79738c956c081e23ac2f2415bf77da199dfd920c",
			"fa61e3dec3439589f4784c893bf321d0084f04c572c7af2b68e3f3360a35b486",
		},
		{3, 2}: {
			"fa61e3dec3439589f4784c893bf321d0084f04c572c7af2b68e3f3360a35b486",
		},
		{5, 3}: {
			"fa61e3dec3439589f4784c893bf321d0084f04c572c7af2b68e3f3360a35b486",
			"906c5d2485cae722073a430f4d04fe1767507592cef226629aeadb85a2ec909d",
			"cb00989d94a569c0a678ae042b63dcd4625db96440517f37a6eb7976ea24ed4b",
			"11e1f558223f4c71b6be1cecfd1f0de87146d2594877c27b29ec519f9040213c",
		},
		{5, 4}: {
			"11e1f558223f4c71b6be1cecfd1f0de87146d2594877c27b29ec519f9040213c",
		},
		{6, 5}: {
			"11e1f558223f4c71b6be1cecfd1f0de87146d2594877c27b29ec519f9040213c",
			"53304f5e3fd4bcd20b39abdef2fe118031cc5ae8217bcea008dea7e27869348a",
			"9f4a3fc20d4162dc37d4e23d907848731a76043ffff6d69288bf1abfbcff478e",
		},
		{7, 3}: {
			"fa61e3dec3439589f4784c893bf321d0084f04c572c7af2b68e3f3360a35b486",
			"906c5d2485cae722073a430f4d04fe1767507592cef226629aeadb85a2ec909d",
			"cb00989d94a569c0a678ae042b63dcd4625db96440517f37a6eb7976ea24ed4b",
			"973f083957c7359fb1943acf9e6689bca6ca5ea7197d808aad3c14498689efe0",
		},
		{7, 4}: {
			"973f083957c7359fb1943acf9e6689bca6ca5ea7197d808aad3c14498689efe0",
		},
		{7, 6}: {
			"d2737dce8a7df1d7d5cf4d5f52d274802c71bfe20a2e078682e71c182d398c90",
			"3bf9c81c231cae70b678d3f3038f9f4f6d6b9d7adcf9b378f25919ae53d17686",
			"9f4a3fc20d4162dc37d4e23d907848731a76043ffff6d69288bf1abfbcff478e",
		},
		{8, 1}: {
			"2215e8ac4e2b871c2a48189e79738c956c081e23ac2f2415bf77da199dfd920c",
			"d51f2dfecb59566dabdbb6b40bf651cdf39e677b4425165e217590ff3e010edb",
			"31f2973ab63e19375dfe0d165a92ebd9a13d28b5e6fc78072c4068bd7bbfbc37",
		},
		{8, 5}: {
			"11e1f558223f4c71b6be1cecfd1f0de87146d2594877c27b29ec519f9040213c",
			"53304f5e3fd4bcd20b39abdef2fe118031cc5ae8217bcea008dea7e27869348a",
			"f384a00ff1483ad123c05cb5035c9bfa46a2d925548a5fa36acf1776c9b0f448",
			"9f4a3fc20d4162dc37d4e23d907848731a76043ffff6d69288bf1abfbcff478e",
		},
		{8, 7}: {
			"3bf9c81c231cae70b678d3f3038f9f4f6d6b9d7adcf9b378f25919ae53d17686",
			"797427cf8368051fe7b8e3e9d5ade9c5bc9d0cf96f4f3fad2a1e1d7848368188",
			"d2737dce8a7df1d7d5cf4d5f52d274802c71bfe20a2e078682e71c182d398c90",
			"9f4a3fc20d4162dc37d4e23d907848731a76043ffff6d69288bf1abfbcff478e",
		},
		{9, 8}: {
			"195f58bc6d6b7b36335c95e08343825a7ae6f30437b4a7e6fa7b89d76907570a",
		},
		{100, 37}: {
			"e9cc10ef4428b6f16d76c4ffa9f1e1820d8af6cb4ded0847692b2b624fe15b4e",
			"fd6760745ad5e2a0bc2c0ccb173e9a14081e870f45505b45c69e089035c1ce6c",
			"1f29c68824232146a07dfda7f49d43ec1f1c5cb14d01a2c06f64ae47b22b232f",
			"a7531c17503baf4c30b700e9c5bf09653dc416c4fd71d60bc99bce89a447bc2f",
			"dfa57be7bac3f7e6b47b1f5d86915df3e9442fb29b4331ab8ffb0b9e4279041d",
			"ceddcd5a8d11d74a4e3dc4e7efdd10aaa8dec6a16cf5e1c78d2b1281eba5b43c",
			"045771ee374b4f64c06fd3c905f8676c0594d72f062717dfb83b2f20c64772cc",
			"92c02a59225547a5960559f96ab08448d5a95b1f6973bc8a961bec1edb227fdd",
		},
		{100, 64}: {
			"92c02a59225547a5960559f96ab08448d5a95b1f6973bc8a961bec1edb227fdd",
		},
		{1000, 512}: {
			"e8c8269f310b4edc3cacc03b8b9002203a221993a24ad48bf5fc78f9361b33b4",
		},
		{1000, 999}: {
			"9b34d8e2157c6a370a53ce698fe9ad0bcfe3207d5798743ba3508b69dc329c79",
			"fdb6ee598f021270d10babb0950d9b66433e7f297c998ec733d9758ad94f1961",
			"e799a90f1dcbdddd9cde2c1d526cdea07e62265ea914330a0c1e8ef79bb40b94",
			"8614002a01e417958a7fd8cf7e24485234901c04f097ed7cdcc73eacd3401277",
			"3d970bcbdf6adf6fbaf0917e85e3ec0d7d72a2c528fa7fdb6045bdb3e5c184d8",
			"2863fce8cbd8de6bfad87d355dba151dd54adfa5ecd8c48dd74e0829ade517e8",
			"1519dc258fa6deea0c66b0950913a6970f24c85e7a21ea258bfe0f42c5c9dde2",
			"018d5c25e9bbb4d832e744818f90071116788d2603cd4d7be2f5debd9ba548aa",
			"d4b2162495ca609dc06390d353ca0c55107765c609e0226eb747d89105dc8d55",
		},
		{4095, 2731}: {
			"434f2455c4eb55e37804a2301f0780411c388c33054d2e0aa4091d13d2395352",
			"9c2d4c3566a6611134dd7c4f664b0fb5427da196a3b66b7ea05565270a629efa",
			"76508329fdad52e2cb493881a5ef52227baaad813e9511cd73457d89f38a485d",
			"d935858dc8bf4761d245053419882bb7d46a5d37cb2bea9e16796d009b0ce663",
			"8b5b05e23d35c772d137f195b4daea5ac752cb1496f136336e67778ca96b1cd9",
			"73c6ec9f8ab04f6790dc91b939add43b02cc1b186eb51971168060ee25c48899",
			"e82ad3e48a69740b0efb70cd00a00883fd55eb40b31aef947e17f067872c593b",
			"61e55411d5f90c5473900641e6f86f4e5ac84d72f7f072c0314edd4fa23d528a",
			"e1d937a499701927910c9f0767df3809f2616e116c9a7bb3e8c33467dbc2cdaf",
			"9350ea94435ba6ed5a1f7768121279f496497b3ec3425128816eaad78708f736",
			"0158892fe1cf7efa50ac30721b650893304725b29e10d6d47454972c6da2f3a5",
			"37936a3b62d9a1397f11de1da1b123ea839185f6d8d9bf2559f050f343e0b6d5",
			"c7444f52c6cb22152a040b6afe1fd93febd500dfd637eea67a1491fedf9ae623",
		},
		{4096, 1}: {
			"2215e8ac4e2b871c2a48189e79738c956c081e23ac2f2415bf77da199dfd920c",
			"d51f2dfecb59566dabdbb6b40bf651cdf39e677b4425165e217590ff3e010edb",
			"31f2973ab63e19375dfe0d165a92ebd9a13d28b5e6fc78072c4068bd7bbfbc37",
			"404f01deabfce702b8bdc982374a9b5e3796e49c3c8461411e4dd1dcccd7385b",
			"f30f4fa56ad05b7153ba8fa74dceb5b41b56c478fcacfcaf9994adfd14aac5be",
			"3b9a58abb05cd3a37b1c82fbfeba409fd9f346c46cca526b647f7875ea01ec36",
			"d2ed5e687d720e8b2e0e9312da6b76f4b395f1d441e6570db0da6ad105168303",
			"99ea324be0fde9bd63bb057d10be138a726e2e3fe03c8677d5b7a684b6bd26ca",
			"7d95b32750f4c12f0db0772ae4f8947ce20d46166d985c23fa20afe94bc7940b",
			"51f412ce944770a4ae4b9be80d8017dcfbc21c20291c2a7210527834f0e01a2c",
			"da9eaec7a24616e53df49d05805f8253488bd4d004f734658dec703a2d90be3f",
			"2adf00c63cba9e5faa374778632c97a3c25f2eea2c843c5e3306dbf481c22124",
		},
		{4096, 2048}: {
			"2adf00c63cba9e5faa374778632c97a3c25f2eea2c843c5e3306dbf481c22124",
		},
		{4096, 4095}: {
			"962c2d1aa64d66e5c1bf416c47c6b62a9978af061fd28cb052a1e91d664dd895",
			"edb8b6aa019f6fe7d51a89e8165b38ff144744098b4b18fcf95aa53bdff26b61",
			"2404192646491780213ca7a427c8cc441cb12f9f3064232f70a99bd9b19b7b91",
			"e4892fc6a53161b3b4bc2c06f89621b9567c833183ffbc8a373aa8e52067a873",
			"c1b464be94fd6ac9c86dbd93f84ecc7940eaa2f9a9ffb16f673d37f64e12fe10",
			"5cea5981c4a8db633abf2a098db6a2f0dc471eeaa915a83d65677c33be5b63b6",
			"24b22240ce1ec0bb3ae64ecf802116c369dab8e43f157b5c83c98cc51d27a54d",
			"07f1331e6a4315b214ebe6ad9892c4ebaac1be97de0a83d7b6ccdb0692043016",
			"8b34f984ef80fafea8a1402cc473ae25920f88f892f9203d9fd247d580e11b34",
			"de8d5cb69532eadebb101e2737d4ed9526de021682695ad73d299114e2a89dfd",
			"fcb5212b43eec4f24d1e894449f40e8d3a8eef50ac9632cb0546ee4e34d7d1f6",
			"fcd5afbd41ea4aceb8ffe998f6d48d7df41fa52ae39eb7b3815c355f62ad9542",
			"c7444f52c6cb22152a040b6afe1fd93febd500dfd637eea67a1491fedf9ae623",
		},
	}
}

// toldRoots are roots as another program told them, by how many leaves there are.
func toldRoots() map[int]string {
	return map[int]string{
		1:    "db3426e878068d28d269b6c87172322ce5372b65756d0789001d34835f601c03",
		2:    "cb00989d94a569c0a678ae042b63dcd4625db96440517f37a6eb7976ea24ed4b",
		3:    "725d5230db68f557470dc35f1d8865813acd7ebb07ad152774141decbae71327",
		4:    "9f4a3fc20d4162dc37d4e23d907848731a76043ffff6d69288bf1abfbcff478e",
		5:    "b6748f6ed7a99de7da84fd97e1a3bac6fab8999f4a43695cab9528a2de431147",
		6:    "32805cc5e94134743d0aa580ef2ee332687b687fc2e4e2f72fee1cc712e0ba0c",
		7:    "a3e23b32ccb6bf96d092d165d8aa546e09829de8f03b0e8957581d1e16b92bdf",
		8:    "3b85a9626c1ccb64c6b95ec7fa64888defe2cf12e39e77e10812ce5fcb9cb58e",
		9:    "e10cb99e8a9c48ae8a25e6c37ab3c88e6c93e8cf2a62cf7e4dcac1ea597e77d4",
		37:   "23fe5eb3b8bbf2e5dadfdf2daa72df96bd7aa701b4581f37b6713e8fe32e0ee8",
		64:   "391a31ee43d791bbe11932a5a2242719c18874e81cf32f0d8d3d7bf31bfca6b8",
		100:  "7a1541f5e93292eb40660749ef8f36ef074d30052102fab1abfd03bf09e5685d",
		512:  "d4b2162495ca609dc06390d353ca0c55107765c609e0226eb747d89105dc8d55",
		999:  "0ee83dfcd696eba4f083f1a21c1511e9c50e10a7490194392342c0c5b0ef4dd2",
		1000: "638afa98022925bacfddadb15ef22fd0199c1ac99c2973b6158243d13fce05c2",
		2048: "c7444f52c6cb22152a040b6afe1fd93febd500dfd637eea67a1491fedf9ae623",
		2731: "48c22ae08abb7f8f428ff7cc99046526070d7aa6ace76f3a638a4cac4274c1ea",
		4095: "4c29ea1eff29c565800fd1c66d95c605ce2c21eab4e3a2600aee3701feffa188",
		4096: "5922475ce3e128c476adfd094bbe33d4a515fd2266848485d18b81c80b02843a",
	}
}

// unhex is the hash that a text tells to the base 16.
func unhex(t *testing.T, s string) api.Hash {
	t.Helper()
	b, err := hex.DecodeString(s)
	if err != nil || len(b) != 32 {
		t.Fatalf("no hash: %s", s)
	}
	return api.Hash(b)
}

// unhexes are hashes that texts tell.
func unhexes(t *testing.T, l []string) []api.Hash {
	t.Helper()
	var p []api.Hash
	for _, s := range l {
		p = append(p, unhex(t, s))
	}
	return p
}

func TestProofAsAnotherProgramTold(t *testing.T) {
	l := leaves(api.MaxEntries)
	for x, want := range told() {
		isProof(t, "what was told", l[:x[0]], x[1], unhexes(t, want))
	}
}

func TestCheckAsAnotherProgramTold(t *testing.T) {
	roots := toldRoots()
	for x, s := range told() {
		n, m, p := x[0], x[1], unhexes(t, s)
		older, newer := unhex(t, roots[m]), unhex(t, roots[n])
		isChecked(t, "a proof that was told", m, n, older, newer, p, api.OK)
		isChecked(t, "another older root", m, n, newer, newer, p, api.ErrProof)
		isChecked(t, "another newer root", m, n, older, older, p, api.ErrProof)
	}
}

// TestProofsOfCertificateLogs looks at the leaves and proofs that programs for logs of certificates are tried with.
func TestProofsOfCertificateLogs(t *testing.T) {
	var l []api.Hash
	for _, s := range []string{"", "\x00", "\x10", " !", "01", "@ABC", "PQRSTUVW", "`abcdefghijklmno"} {
		l = append(l, trees.Leaf(s))
	}
	isProof(t, "the certificates", l[:5], 2, unhexes(t, []string{
		"5f083f0a1a33ca076a95279832580db3e0ef4584bdff1f54c8a360f50de3031e",
		"bc1a0643b12e4d2d7c77918f44e0f4f79a838b6cf9ec5b5c283e1f4d88599e6b",
	}))
	six := unhexes(t, []string{
		"0ebc5d3437fbe2db158b9f126a1d118e308181031d0a949f8dededebc558ef6a",
		"ca854ea128ed050b41b35ffc1b87b8eb2bde461e9e3b5596ece6b9d5975a0ae0",
		"d37ee418976dd95753c1c73862b9398fa2a2cf9b4ff0fdfe8b30cd95209614b7",
	})
	isProof(t, "the certificates", l, 6, six)
	root := unhex(t, "5dc9da79a70659a9ad559cb701ded9a2ab9d823aad2f4960cfe370eff4604328")
	isChecked(t, "the certificates", 6, 8, trees.Root(l[:6]), root, six, api.OK)
	isChecked(t, "the certificates, but one less", 5, 8, trees.Root(l[:5]), root, six, api.ErrProof)
}

func TestProof(t *testing.T) {
	l := leaves(api.MaxEntries)
	longest := 0
	for _, n := range sizes() {
		for _, m := range beginnings(n) {
			isProof(t, "a beginning", l[:n], m, proofOf(l[:n], m))
			p, _ := Proof(l[:n], m)
			longest = max(longest, len(p))
		}
	}
	if longest != 13 {
		t.Errorf("the longest proof has %d hashes, not 13", longest)
	}
}

func TestProofOfNoneAndOfAll(t *testing.T) {
	for _, n := range append(sizes(), 4097, 8192) {
		l := marked(n)
		isProof(t, "none", l, 0, nil)
		isProof(t, "all", l, n, nil)
	}
	isProof(t, "none of no list", nil, 0, nil)
	isProof(t, "none of an empty list with room", marked(9)[:0], 0, nil)
}

func TestProofOfPowersOfTwo(t *testing.T) {
	l := leaves(api.MaxEntries)
	for k := 1; 2*k <= len(l); k *= 2 {
		// The older root stands on one side alone: the newer one is made of it and of what is told.
		isProof(t, "half", l[:2*k], k, []api.Hash{trees.Root(l[k : 2*k])})
		isProof(t, "a power of two, and one more", l[:k+1], k, []api.Hash{l[k]})
		for m := k + 1; m < 2*k; m += 1 + k/4 {
			p, e := Proof(l[:2*k], m)
			if e != api.OK || len(p) == 0 || p[len(p)-1] != trees.Root(l[:k]) {
				t.Errorf("Proof of %d among %d: error %d, %v, whose last one is not the first half's root", m, 2*k, e, texts(p))
			}
		}
	}
}

func TestProofOfLeavesAlike(t *testing.T) {
	l := make([]api.Hash, 33)
	for m := range len(l) + 1 {
		p := proofOf(l, m)
		isProof(t, "leaves alike", l, m, p)
		isChecked(t, "leaves alike", m, 33, trees.Root(l[:m]), trees.Root(l), p, api.OK)
	}
}

func TestProofOfMoreThanALogHas(t *testing.T) {
	// A list has no limit here; a check has.
	l := marked(2*api.MaxEntries + 1)
	for _, n := range []int{4097, 4098, 8191, 8192, 8193} {
		for _, m := range []int{0, 1, 2, 4095, 4096, 4097, n - 1, n} {
			p := proofOf(l[:n], m)
			isProof(t, "too many", l[:n], m, p)
			isChecked(t, "too many", m, n, trees.Root(l[:m]), trees.Root(l[:n]), p, api.ErrArg)
		}
	}
}

// far are numbers that no log has.
func far() []int {
	return []int{1 << 31, 1 << 32, 1<<32 + 1, -1 << 32, 1 << 62, math.MinInt, math.MinInt + 1, math.MaxInt - 1, math.MaxInt}
}

func TestProofOfNoBeginning(t *testing.T) {
	for _, n := range []int{0, 1, 2, 3, 4, 5, 8, 40, 4095, 4096, 4097} {
		for _, m := range append(far(), -1, -2, -n-1, n+1, n+2, 2*n+1) {
			if p, e := Proof(marked(n), m); e != api.ErrArg || len(p) != 0 {
				t.Errorf("Proof of %d among %d: error %d, %v", m, n, e, texts(p))
			}
		}
	}
	for _, m := range []int{-1, 1} {
		if p, e := Proof(nil, m); e != api.ErrArg || len(p) != 0 {
			t.Errorf("Proof of %d among none: error %d, %v", m, e, texts(p))
		}
		if p, e := Proof(marked(9)[:0], m); e != api.ErrArg || len(p) != 0 {
			t.Errorf("Proof of %d among none, with room: error %d, %v", m, e, texts(p))
		}
	}
}

func TestCheckTakesEachBeginning(t *testing.T) {
	l := leaves(api.MaxEntries)
	for _, n := range sizes() {
		root := trees.Root(l[:n])
		for _, m := range beginnings(n) {
			p, e := Proof(l[:n], m)
			if e != api.OK {
				t.Fatalf("Proof of %d among %d: error %d", m, n, e)
			}
			isChecked(t, "its proof", m, n, trees.Root(l[:m]), root, p, api.OK)
		}
	}
}

func TestCheckOfNone(t *testing.T) {
	none, other := trees.Root(nil), trees.Leaf("another")
	for _, n := range []int{1, 2, 3, 4, 5, 8, 4095, 4096} {
		root := trees.Root(marked(n))
		// Nothing is the beginning of whatever there is: the newer root may be any.
		for _, newer := range []api.Hash{root, none, other, {}} {
			isChecked(t, "none", 0, n, none, newer, nil, api.OK)
			isChecked(t, "none, an empty proof", 0, n, none, newer, []api.Hash{}, api.OK)
			isChecked(t, "none, an empty proof with room", 0, n, none, newer, marked(9)[:0], api.OK)
			for _, older := range []api.Hash{root, other, {}, turned(none, 0), turned(none, 255)} {
				isChecked(t, "none, another older root", 0, n, older, newer, nil, api.ErrProof)
			}
			for _, h := range []api.Hash{none, root, other, {}} {
				isChecked(t, "none, with a proof", 0, n, none, newer, []api.Hash{h}, api.ErrProof)
				isChecked(t, "none, with a proof of two", 0, n, none, newer, []api.Hash{h, h}, api.ErrProof)
			}
		}
	}
	for bit := range 256 {
		isChecked(t, fmt.Sprint("none, its root's bit turned, ", bit), 0, 3, turned(none, bit), other, nil, api.ErrProof)
	}
}

func TestCheckOfNoneAmongNone(t *testing.T) {
	none := trees.Root(nil)
	isChecked(t, "none among none", 0, 0, none, none, nil, api.OK)
	isChecked(t, "none among none, an empty proof", 0, 0, none, none, []api.Hash{}, api.OK)
	for _, h := range []api.Hash{{}, trees.Leaf(""), trees.Leaf("another"), turned(none, 7), turned(none, 248)} {
		isChecked(t, "another newer root", 0, 0, none, h, nil, api.ErrProof)
		isChecked(t, "another older root", 0, 0, h, none, nil, api.ErrProof)
		isChecked(t, "both another", 0, 0, h, h, nil, api.ErrProof)
		isChecked(t, "a proof", 0, 0, none, none, []api.Hash{h}, api.ErrProof)
	}
	isChecked(t, "the root as a proof", 0, 0, none, none, []api.Hash{none}, api.ErrProof)
}

func TestCheckOfAll(t *testing.T) {
	other := trees.Leaf("another")
	for _, n := range []int{1, 2, 3, 4, 5, 8, 4095, 4096} {
		root := trees.Root(marked(n))
		// Any root is the same as itself.
		for _, h := range []api.Hash{root, other, {}, trees.Root(nil)} {
			isChecked(t, "all", n, n, h, h, nil, api.OK)
			isChecked(t, "all, an empty proof", n, n, h, h, []api.Hash{}, api.OK)
			isChecked(t, "all, an empty proof with room", n, n, h, h, marked(9)[:0], api.OK)
			for _, more := range []api.Hash{h, root, other, {}} {
				isChecked(t, "all, with a proof", n, n, h, h, []api.Hash{more}, api.ErrProof)
				isChecked(t, "all, with a proof of two", n, n, h, h, []api.Hash{more, h}, api.ErrProof)
			}
			isChecked(t, "all, another newer root", n, n, h, turned(h, 77), nil, api.ErrProof)
			isChecked(t, "all, another older root", n, n, turned(h, 177), h, nil, api.ErrProof)
			isChecked(t, "all, the other root as a proof", n, n, h, turned(h, 3), []api.Hash{turned(h, 3)}, api.ErrProof)
		}
	}
}

func TestCheckOfOne(t *testing.T) {
	l := leaves(api.MaxEntries)
	for _, n := range []int{2, 3, 4, 5, 8, 9, 4095, 4096} {
		p, root := proofOf(l[:n], 1), trees.Root(l[:n])
		isChecked(t, "one leaf", 1, n, l[0], root, p, api.OK)
		isChecked(t, "another leaf", 1, n, l[1], root, p, api.ErrProof)
		isChecked(t, "one leaf, that is told, too", 1, n, l[0], root, slices.Insert(slices.Clone(p), 0, l[0]), api.ErrProof)
	}
}

func TestCheckOfNumbersThatMayNotBe(t *testing.T) {
	l := marked(20)
	none := trees.Root(nil)
	look := func(m, n int) {
		// Whatever roots and proof are, and if nothing holds, too: that the numbers may not be is named first.
		for _, p := range [][]api.Hash{nil, {none}, l[:1], l[:2], l[:12], l[:13], l} {
			isChecked(t, "numbers that may not be", m, n, none, none, p, api.ErrArg)
			isChecked(t, "numbers that may not be", m, n, l[0], l[0], p, api.ErrArg)
			isChecked(t, "numbers that may not be", m, n, none, l[0], p, api.ErrArg)
			isChecked(t, "numbers that may not be", m, n, l[0], none, p, api.ErrArg)
		}
	}
	for _, n := range append(far(), -1, -2, -4096, 4097, 4098, 8192) {
		for _, m := range append(far(), -1, 0, 1, 2, 4095, 4096, 4097, n-1, n, n+1) {
			look(m, n)
		}
	}
	for _, n := range []int{0, 1, 2, 3, 4, 5, 8, 4095, 4096} {
		for _, m := range append(far(), -1, -2, -n-1, n+1, n+2, 2*n+1, 4097) {
			look(m, n)
		}
	}
}

func TestCheckOfAnotherOlderRoot(t *testing.T) {
	for _, n := range []int{2, 3, 4, 5, 7, 8, 13} {
		l := leaves(n)
		root := trees.Root(l)
		for _, m := range between(n) {
			p, older := proofOf(l, m), trees.Root(l[:m])
			for bit := range 256 {
				isChecked(t, fmt.Sprint("the bit ", bit, " of the older root turned"), m, n, turned(older, bit), root, p, api.ErrProof)
			}
			others := append([]api.Hash{{}, trees.Root(nil), root}, p...)
			for k := range n {
				others = append(others, trees.Root(l[:k]), l[k])
			}
			for _, h := range others {
				if h != older {
					isChecked(t, "another older root", m, n, h, root, p, api.ErrProof)
				}
			}
		}
	}
}

func TestCheckOfAnotherNewerRoot(t *testing.T) {
	for _, n := range []int{2, 3, 4, 5, 7, 8, 13} {
		l := leaves(n)
		root := trees.Root(l)
		for _, m := range between(n) {
			p, older := proofOf(l, m), trees.Root(l[:m])
			for bit := range 256 {
				isChecked(t, fmt.Sprint("the bit ", bit, " of the newer root turned"), m, n, older, turned(root, bit), p, api.ErrProof)
			}
			others := append([]api.Hash{{}, trees.Root(nil), older}, p...)
			for k := range n {
				others = append(others, trees.Root(l[:k]), l[k])
			}
			for _, h := range others {
				isChecked(t, "another newer root", m, n, older, h, p, api.ErrProof)
			}
			isChecked(t, "the roots turned about", m, n, root, older, p, api.ErrProof)
		}
	}
}

func TestCheckOfAnotherLog(t *testing.T) {
	l := leaves(24)
	for _, n := range []int{2, 3, 5, 7, 8, 13, 24} {
		for _, m := range between(n) {
			p, root := proofOf(l[:n], m), trees.Root(l[:n])
			for i := range n {
				other := slices.Clone(l[:n])
				other[i] = trees.Leaf("another")
				otherRoot, q := trees.Root(other), proofOf(other, m)
				older := trees.Root(l[:m])
				isChecked(t, fmt.Sprint("a log with another leaf ", i), m, n, older, otherRoot, p, api.ErrProof)
				// Behind the beginning a leaf may be another one: then it is the beginning of both.
				isChecked(t, fmt.Sprint("a log with another leaf ", i, ", and its proof"), m, n, older, otherRoot, q, verdict(i >= m))
				// The proof of a power of two tells nothing of the leaves that it begins with.
				same := i < m && power(m)
				isChecked(t, fmt.Sprint("the proof of a log with another leaf ", i), m, n, older, root, q, verdict(same))
			}
		}
	}
}

func TestCheckOfAnotherHash(t *testing.T) {
	for _, n := range []int{2, 3, 5, 7, 8, 13, 100} {
		l := leaves(n)
		root := trees.Root(l)
		for _, m := range []int{1, n / 2, n/2 + 1, n - 1} {
			p, older := proofOf(l, m), trees.Root(l[:m])
			if m == n {
				continue
			}
			for j := range p {
				was := p[j]
				for bit := range 256 {
					p[j] = turned(was, bit)
					isChecked(t, fmt.Sprint("the bit ", bit, " of the hash ", j, " turned"), m, n, older, root, p, api.ErrProof)
				}
				for _, h := range []api.Hash{{}, older, root} {
					p[j] = h
					isChecked(t, fmt.Sprint("another hash ", j), m, n, older, root, p, api.ErrProof)
				}
				p[j] = was
				for k := range j {
					p[j], p[k] = p[k], p[j]
					isChecked(t, fmt.Sprint("the hashes ", j, " and ", k, " turned about"), m, n, older, root, p, api.ErrProof)
					p[j], p[k] = p[k], p[j]
				}
			}
			isChecked(t, "the proof as it was", m, n, older, root, p, api.OK)
		}
	}
}

func TestCheckOfOtherSizes(t *testing.T) {
	l := leaves(18)
	for n := range len(l) + 1 {
		for _, m := range between(n) {
			p, older, newer := proofOf(l[:n], m), trees.Root(l[:m]), trees.Root(l[:n])
			for k := range len(l) + 1 {
				for j := range k + 1 {
					// The hashes may stand at the same places there: then they say the same.
					isChecked(t, fmt.Sprint("the proof of ", m, " among ", n), j, k, older, newer, p, byWords(j, k, older, newer, p))
					if j != m || k != n {
						isChecked(t, fmt.Sprint("the proof of ", m, " among ", n, " with other roots"), j, k, trees.Root(l[:j]), trees.Root(l[:k]), p, api.ErrProof)
					}
				}
			}
		}
	}
}

func TestCheckOfOneMore(t *testing.T) {
	l := leaves(api.MaxEntries)
	for _, n := range sizes() {
		for _, m := range between(n) {
			p, older, root := proofOf(l[:n], m), trees.Root(l[:m]), trees.Root(l[:n])
			for at := range len(p) + 1 {
				// The older root, told ahead, says no more than is known: it is one too many.
				for _, more := range []api.Hash{{}, l[0], older, root, p[0]} {
					longer := slices.Insert(slices.Clone(p), at, more)
					isChecked(t, fmt.Sprint("one more at ", at), m, n, older, root, longer, api.ErrProof)
				}
			}
			isChecked(t, "one more, and roots made with it", m, n, older, trees.Node(root, l[0]), append(slices.Clone(p), l[0]), api.ErrProof)
			isChecked(t, "one more, and roots made with it", m, n, trees.Node(l[0], older), trees.Node(l[0], root), append(slices.Clone(p), l[0]), api.ErrProof)
			isChecked(t, "twice the proof", m, n, older, root, append(slices.Clone(p), p...), api.ErrProof)
		}
	}
}

func TestCheckOfOneLess(t *testing.T) {
	l := leaves(api.MaxEntries)
	for _, n := range sizes() {
		for _, m := range between(n) {
			p, older, root := proofOf(l[:n], m), trees.Root(l[:m]), trees.Root(l[:n])
			for at := range p {
				less := slices.Delete(slices.Clone(p), at, at+1)
				isChecked(t, fmt.Sprint("one less at ", at), m, n, older, root, less, api.ErrProof)
				isChecked(t, fmt.Sprint("one less at ", at, ", one root"), m, n, older, older, less, api.ErrProof)
				isChecked(t, fmt.Sprint("the first ", at), m, n, older, root, p[:at], api.ErrProof)
				isChecked(t, fmt.Sprint("all from ", at+1, " on"), m, n, older, root, p[at+1:], api.ErrProof)
			}
			for _, h := range []api.Hash{older, root, {}} {
				isChecked(t, "an empty proof", m, n, h, h, nil, api.ErrProof)
				isChecked(t, "an empty proof", m, n, older, h, []api.Hash{}, api.ErrProof)
			}
		}
	}
}

func TestCheckOfManyMore(t *testing.T) {
	many := make([]api.Hash, 1<<18)
	for _, n := range []int{0, 1, 2, 3, 5, 4095, 4096} {
		l := marked(n)
		root := trees.Root(l)
		for _, m := range []int{0, 1, n / 2, n - 1, n} {
			if m < 0 || m > n {
				continue
			}
			older, p := trees.Root(l[:m]), append(proofOf(l, m), many...)
			isChecked(t, "many more", m, n, older, root, p, api.ErrProof)
			isChecked(t, "many", m, n, older, root, many, api.ErrProof)
			// Just as many more that their number could seem to be none.
			isChecked(t, "256 more", m, n, older, root, p[:len(p)-len(many)+256], api.ErrProof)
			isChecked(t, "65536 more", m, n, older, root, p[:len(p)-len(many)+65536], api.ErrProof)
		}
	}
}

func TestCheckIsByTheWords(t *testing.T) {
	p := marked(20)
	leaf := trees.Leaf("a")
	for _, n := range sizes() {
		for _, m := range between(n) {
			for k := range 16 {
				first, second, ok := saying(m, n, true, leaf, p[:k])
				isChecked(t, fmt.Sprint("any ", k, " hashes"), m, n, first, second, p[:k], verdict(ok && (first == leaf || !power(m))))
				isChecked(t, fmt.Sprint("any ", k, " hashes, another older root"), m, n, leaf, second, p[:k], verdict(ok && first == leaf))
			}
		}
	}
}

func TestCheckOfAnything(t *testing.T) {
	random := rand.New(rand.NewSource(7))
	few := append(marked(3), api.Hash{}, trees.Root(nil), trees.Node(marked(1)[0], marked(2)[1]))
	one := func() api.Hash { return few[random.Intn(len(few))] }
	for range 40000 {
		n, m := random.Intn(12)-2, random.Intn(12)-2
		p := make([]api.Hash, random.Intn(6))
		for j := range p {
			p[j] = one()
		}
		older, newer, want := one(), one(), api.ErrArg
		if n >= 0 && m >= 0 && m <= n {
			if m > 0 && random.Intn(2) == 0 {
				if first, second, ok := saying(m, n, true, older, p); ok {
					older, newer = first, second
				}
			}
			want = byWords(m, n, older, newer, p)
		}
		isChecked(t, fmt.Sprint(texts(p)), m, n, older, newer, p, want)
	}
}

// roomy is a list with room behind it, in which other hashes stand.
func roomy(l []api.Hash) []api.Hash {
	return append(slices.Clone(l), leaves(20)...)[:len(l)]
}

// all are a list's hashes, and those in the room behind it.
func all(l []api.Hash) []api.Hash { return l[:cap(l)] }

func TestListsStayAsTheyWere(t *testing.T) {
	for _, n := range []int{0, 1, 2, 3, 4, 5, 7, 8, 9, 33} {
		l := roomy(marked(n))
		was := slices.Clone(all(l))
		for m := -1; m <= n+1; m++ {
			Proof(l, m)
		}
		for m := range n + 1 {
			older, root := trees.Root(l[:m]), trees.Root(l)
			p := roomy(proofOf(l, m))
			wasProof := slices.Clone(all(p))
			Check(m, n, older, root, p)
			Check(m, n, older, root, all(p))
			Check(m, n, older, root, p[:len(p)/2])
			if !slices.Equal(all(p), wasProof) {
				t.Errorf("%d among %d: Check changed a proof, or what is behind it", m, n)
			}
		}
		if !slices.Equal(all(l), was) {
			t.Errorf("%d leaves were changed, or what is behind them", n)
		}
	}
}

func TestProofsThatAreToldAreTheCallersOwn(t *testing.T) {
	for _, n := range []int{2, 3, 4, 5, 7, 8, 9, 33} {
		l := roomy(marked(n))
		was := slices.Clone(all(l))
		for m := range n + 1 {
			first, _ := Proof(l, m)
			kept := slices.Clone(first)
			second, _ := Proof(l, m)
			clear(all(first))
			if !slices.Equal(second, kept) {
				t.Errorf("%d among %d: a proof is another one by one that was told ahead", m, n)
			}
			if !slices.Equal(all(l), was) {
				t.Fatalf("%d among %d: leaves are changed by a proof that was told", m, n)
			}
			clear(l)
			if !slices.Equal(second, kept) {
				t.Errorf("%d among %d: a proof is another one by leaves that were handed in", m, n)
			}
			copy(l, was)
		}
	}
}

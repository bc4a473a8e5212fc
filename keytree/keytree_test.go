package keytree

import (
	"bytes"
	"encoding/hex"
	"fmt"
	"math"
	"math/rand"
	"slices"
	"strings"
	"sync"
	"testing"

	"speculum/api"
	"speculum/lamport"
	"speculum/sha"
)

// told is a tree as another program told it: its seed, its root, and for each key the sum of its signatures of digests, behind one another, and of its path behind them.
type told struct {
	seed, root string
	sums       [8]string
}

// treesTold are trees as another program told them.
func treesTold() []told {
	return []told{
		{"", "def90213128dd606eaf88c2ac1044b1a6c6b33caa76507bfa3352662a16c38ab", [8]string{
			"e92731010d3a88a7947fe15aa80e9e74fb29a729381c49266d8caabefe004307",
			"f671661b2b534172c96bc7b2f10737bf43081ff10090d7f79778bb29e022a40d",
			"d5b60664af8961df1ca97f1f591a4a45a1eb5f1769e649994eb63b8b484dba29",
			"85cce8d83b19bafcf02cf140de4edda1bf1fb4c85bccd5ee7850f098e998fd57",
			"e9412926cfa18cfb0f41b1975df11aee39afc1054b79ff97796e376795eaa000",
			"88dfcaa69a254c3cf67cc065363c152148b7771b22ed99d58d811c82bc35ab98",
			"c04ad4ed71d54e7225824c359959203e9baa37374aee345fc24c6d3d97cfcb56",
			"f858da36fa4e162b7b7a516d56e722ff88a8dbac393ef7431ee397f3d3b8071e",
		}},
		{"a", "aaf45184db98c8fc2bcd5f9a124203f450190c7886f89d518d2cf8d2b6059fda", [8]string{
			"5d262ddd2f9cb646570c7a24b8abd390d4e7242f597226f6e33e26d031befa4b",
			"e163f0bdb2af1a0470ea350cf8300c0d8fa854ace5a9692366a4aebe2a859cac",
			"b9e053bc9cd7b6e3e06d1573ca2a917cfab384ac53aba5aad67ac3683be37b75",
			"ab5335d73a5500a3710b66e346108dbb460a154dd404f7d9ab2957b7e1e82acd",
			"6fec0ab2aa863cea468c16e4257707f5d84efc73902dc59932d315886436e3f7",
			"b64a1a0f356cb3125202d300f8d18028698d709189a62cceae24e07d583a9ce8",
			"1bc5b9f51b22e6154ce07a8f9ddaeeb387c2cb6aa0e376fd7ec0b82696059f3b",
			"4f33e7546c57ce0564930bee107b2727b8ea1aa21755b1955c4172f79cfdc682",
		}},
		{"b", "e531c9f85d6d9c1041a23da2471dc30fa35b65862bf0549cfc29e69401e9d011", [8]string{
			"0594fea63b3b7cb293eb705915a69a7b23637f1249f87cdb30f9205abec9511f",
			"727384b4c1f2d7ad9c9677820b1b3fde53ac1082b55253093c62f191c464c552",
			"09b50f118f8cd36678d0db16bcd56d39d9081306e1af2641d608e6d09259c017",
			"559df6f252555bcc9bef6b1c9f191c34cf60006eae99f083dbde69549152559f",
			"c9c3105817f62400a875547deab3e15df0a5153571e6958957773f7a4fa5fbb2",
			"0fc4c4d32573a0d35740cd49ca0806705aca63d6379c17d9a43b0b2526fc9609",
			"72a59e68bc5627d41a81f517a9dffabf6d9f60db34dc85ea80b3cd10ca5ffec9",
			"3cb5888664582657d4fe759207fa5f35297a84ccff85e810d9762ab8a0e8d177",
		}},
		{"seed", "c1ac4537f421fa2122fac18906ed7ea8eb7a6a1134876a76933a33555dfdfa97", [8]string{
			"f9ba57b4b3b38288e1cd7f721a2717d26ca3ec33ddd17da00585d50b349c88f1",
			"da882fb2e815c1ece0d2d44fd621df0e2624d723e35f20e6553319997fe6f511",
			"ebcd19235b4bdf6d8ee10390e47b8d1527bea4e9146d6bacae3c816719ab795c",
			"52b857b8ad9744354c76aa8e88bc4dc23b1dbb2ec63d9f3a207e86ed5f2cb298",
			"b57f88f924d8cfd24f423e80a94883ede49b84cbc8c59dc884527b5cedbb5f47",
			"e0e1821b10b4d885c98b23646ac3debcab3cc0525bd4dda2a0ec0eff055ef63c",
			"136aea02329bec4417987b34930b8981e389f50d6212f5bc4e4f41cd4b1327be",
			"5b96fe91a910694be024cd2b07dae0fb355f2a6243d96558e5e80ae221c6f071",
		}},
		{"\x00", "463ec6782589fb32b6e41ea20f163a65f4939716aa196b23d1caa2264011cf1c", [8]string{
			"fbf8f883de9a021f0ac7422f69570d7b4e025c77d830e2737ba79072639ac7d0",
			"7bc81b16ebb202ff254a063216cbf89a174f80f000dee7e7b290204140ae067b",
			"69cc1a2a6af0083926a9d772bdd924def135997f00c6f5f74684333bd4eee563",
			"08b6497bf5a8a8b0929cfbba2d8f64d1e5d8a2f27a43ba2b3a2c7760e9a43ad7",
			"11ec02f4a4d1eb1ed94fa0b42cd577ca54279250066b33dc5776e604b1c8ae0f",
			"fda4833d489729c6b7a23c9e3fe8389c42ec602e37060b7a6cc23ba4ea007d7c",
			"731e6a3e7d9dcdee6d4d9be92dc102cce52463d06520dd88af1ef0da20d8d976",
			"ebf970596e20738d177d52c12509afee6f94de2736db108b440a29b343a64be9",
		}},
		{"größe €", "2e82843ccab9adaaba5411a5281ac39f96f75d6b8f73389c0def66f51fe6beef", [8]string{
			"bda243fcb6b16c52267af7a6871166a038e11c46c7dbe923450dc8a48672e0c3",
			"e314cb05bd9fec74d2a2d5e0e633a318160567f2c7c03876006dbdef6b37c626",
			"365e1a8e284e7f6bfad06fcb3fc5e522359a58d8e10163b255c65e42462fca69",
			"a128ff058026520a4a9ed4ae1ba36a0bc56a9a6bfde11dd4bdc67e9bf1ace953",
			"fc3c2f382cdfc07c7d9d5ddfc0873c2ea15229ff25b8c899d61ed70840e73abe",
			"21d12c765fdb5250bca683d789cea027f8ed31eaa4f9edcd590af92503cee419",
			"3b93378a3b7dfdff19781b14773d5b10fa91b2e02eaa3ed86a4750ed6320884a",
			"9d9e1756ed0a7d9aff5e68d446199bf92246c726577789ac0015c1b98a1ad547",
		}},
		{strings.Repeat("s", 127), "237604329d728543f7e3b8179d3915c5b8637f4a5f0ef79ec3540ffda3ebcec8", [8]string{
			"1690ac8c05ba7343b4d9d6ea04945ab262b4c7555b73eb72f7aeaff3b783f414",
			"93cc5326a215aa550542ccea79d992bfd37ea17aeb81dc2d00ab4ce0b54beb39",
			"4fa255e74f8df6586fddac5706d559ee5d70706932e74657541f9e004cdc7520",
			"200a8b23aaeda7494bca8bcfae5143bc003466e140a728765eb498b52289611e",
			"356bdce307929bc7e546ea638dacc1434df97bd20b4278e41123b082e57dda1c",
			"221c85ac36b47f4e99704ce0dd9011e6867b2758aa69b40ac3fc9c5e70bff4e1",
			"cde8ee9d29917117c35651802e44d950f823b037e1f55bfe530e563cad7b9181",
			"87631c3ecd024541aa5ff30be8d01999e26299eee2a2eb4315261ebff511d256",
		}},
		{strings.Repeat("s", 128), "b19f523c7639f3b5456588d8b2e9e54dc38753cf9ae816b50e2973ab270b1024", [8]string{
			"6a4718c65f577794b2d6f1186a1f619b9c314aa262a9a896cf1d6abbbab5292b",
			"2d9bbb531161472fdb35b48310b9a5b7492c64769d84eb20aa82359ce5dbdb52",
			"b719c60837fe4eec5719bed8b347951224c91f5cac03e9fb42aff6197072a93c",
			"4b21fa5fd4c0d2e9d467fd1316f1b50a3cc639c5c30f696af97dcf156691fc1e",
			"9ec8ea4df4c9c64542ad243813c2464d92309397add4678101b0c60e25758749",
			"520459880ddfe9f27261f89261331e0a840cb30d1579535b5aab4096adbb407c",
			"b73fd3061a3067c9e9911b9822898a76a3368caecf1808656fc6860587f94047",
			"ee2664d3833eff30b5a6c55276ce770437c49f0f2cd565650e21faf0d07c878e",
		}},
		{strings.Repeat("s", 5000), "c013b58f4ce367c90ed4ab3402be2e7aada39656cf7d08edc1f0d7e35bdd2361", [8]string{
			"5548431fa22c63ad56de98eb9be5d344ceed6be945090fe4bd63596ba1f87a18",
			"04625c2a96a4cc745d18fc86d6a31236d9c459d0963b33356330bf566a73e6c9",
			"75fdbeaee75218a2c54a8ed20183ecc0c74dc110247b136091d300452ac49193",
			"b72726a5f1004e357e86a6751ee6897d6398d23d7475a663ebc887ed4634eb17",
			"d14efd7671708de96fdca1b56863bc76c190255f329df62b0f99378b8045e617",
			"9cd3f999039511a27cf0544e4fcb117ea79a0692cc27a0d29259d9538e024e6a",
			"4c42ab3da35c65c4b0d947d51ac15dac766b314745a0ae22a6306c08085d749a",
			"77991d8a1ab2abe6c4fc2cacca84839dcfd0362086489b86308dfa8e03b7a4d8",
		}},
		{strings.Repeat("s", 20000), "88fc88285494fb258b4b48649fca3e7392df103dffdd2d94c44b53f8299a5275", [8]string{
			"bdc520b7fb6b780b255aa51dd5c39ad07bf0c90bdf786ac335195d00f1f58c0e",
			"9ba3dbb6b17ae9292986f61b1a8fb992be48127e36812e9f6234791b22072bc8",
			"0998274a49be128b6abfacddd69b624e6af48545dff7de469c909fb2d702b28b",
			"81b3f8a7d3191ab0fefba20073b36e2fb59069d615918adcaa2c962c0015b55b",
			"5f43f27dc37c879248988667879f0110e22a8561030e56175981c63f7d12f52a",
			"68922b4af727cbbfc96bfef2e556fd004d21dfe29165a86ed8808b832dade09e",
			"9f9f08a1e5ed9b362e02c99c1281cefa36e8c62a75b1162a75e76acce6734b0d",
			"84666a3537b5f1518fe217c1c0d53e4ba401acf93f4e81b07632b351514f649d",
		}},
	}
}

// levelsTold are the hashes of the tree of the seed a, from its leaves up, as another program told them.
func levelsTold() [4][]string {
	return [4][]string{
		{
			"c693e45ccdaacad9f998e439246f1ac7e49728a99ec0565b11d34da98a7a8d37",
			"dfa5487b18ec6e2b2b8004324fb6ad4b22cd3de77245210e96d7c707835f232c",
			"551362da9b67370e6f390ea1c3d311a5d1be23cd3ba3b374f7b8b769640d92ad",
			"6232063f7c0c5063ede979dd9e9b41b9d43b8fe4097abfd98f42480a3190b25f",
			"085492630350a66f14374b6ed6423e192be89a01bb176aa890c740965b936a6e",
			"69660acdc8ce6b7c5d7ac91c9a3c8f900e5ffc5f856d85991158e3134ac18870",
			"ef272d959aaa394f4585323646fe15986393abcee92d6cce4d62e51ff9a2c230",
			"d4e8176301c41f4983cd4d17e12df204a3780e31d2648891fb2f5e10c9098f7f",
		},
		{
			"f78a86c7f1bb8c203bfc0224f67fd25265039266d232eaf39584f4b1d83be121",
			"7a87a704aec4e8dd876423c949e98e6ea03a44b04b136966c3739117527c386f",
			"ea0992b11ce42ebc65561345c5bdb5108e3d2386f936cc5a3353e88743d5a84f",
			"b40645902168868b9140e6c8c8a64232ed406b43c532b1b36d2920e962f0b554",
		},
		{
			"d79b0449243ef7a752f21ea14c32bb5f0b41cb1b9d8934dc695f2a5e233f0c46",
			"264cdd0e9236bb4d29e6fb1a516321b12ad961f36584b4b46f4828b396435bbc",
		},
		{
			"aaf45184db98c8fc2bcd5f9a124203f450190c7886f89d518d2cf8d2b6059fda",
		},
	}
}

// digests are those of treesTold, in that order.
func digests() [3]api.Hash {
	return [3]api.Hash{{}, filled(255), sha.Sum("digest")}
}

// filled is a hash of one byte, over and over.
func filled(b byte) api.Hash { return api.Hash(bytes.Repeat([]byte{b}, 32)) }

// unhexed is the hash that a text to the base 16 tells.
func unhexed(s string) api.Hash {
	b, err := hex.DecodeString(s)
	if err != nil {
		panic(err)
	}
	return api.Hash(b)
}

// turned is a hash with a bit that is turned, 0 being the highest one of the first byte.
func turned(h api.Hash, bit int) api.Hash {
	h[bit/8] ^= 128 >> (bit % 8)
	return h
}

// called is a seed in a report: the long ones by their length alone.
func called(seed string) string {
	if len(seed) > 10 {
		return fmt.Sprint("a seed of ", len(seed), " bytes")
	}
	return fmt.Sprintf("the seed %q", seed)
}

// seeds are empty, short and long ones.
func seeds() []string {
	l := []string{"", "\x00", "\x00\x00", "a", "b", "aa", "seed", "\xff\xfe", "größe €"}
	for _, n := range []int{47, 48, 49, 55, 56, 64, 127, 128, 129, 1000} {
		l = append(l, strings.Repeat("s", n))
	}
	return l
}

// anyDigests are digests of all kinds.
func anyDigests() []api.Hash {
	random := rand.New(rand.NewSource(9))
	l := []api.Hash{{}, filled(255), filled(0x55), filled(1), filled(128), sha.Sum(""), sha.Sum("digest")}
	for _, bit := range []int{0, 7, 8, 255} {
		l = append(l, turned(api.Hash{}, bit), turned(filled(255), bit))
	}
	for range 4 {
		var h api.Hash
		random.Read(h[:])
		l = append(l, h)
	}
	return l
}

// noKeys are numbers that no key of a tree has, some of them one of a key's but for what is beyond some bytes.
func noKeys() []int {
	return []int{-1, -2, -3, -7, -8, -9, -256, math.MinInt32, math.MinInt, math.MinInt + 1, math.MinInt + 3,
		8, 9, 10, 11, 15, 16, 255, 256, 259, 65536, 1<<31 - 1, 1 << 31, 1 << 32, 1<<32 + 3, math.MaxInt - 1, math.MaxInt}
}

// node is the hash of two others by the chapter's words (RFC 6962).
func node(a, b api.Hash) api.Hash { return sha.Sum("\x01" + string(a[:]) + string(b[:])) }

// levels are a tree's hashes by the chapter's words, from its leaves up.
func levels(leaves []api.Hash) [][]api.Hash {
	all := [][]api.Hash{leaves}
	for l := leaves; len(l) > 1; {
		var up []api.Hash
		for i := 0; i < len(l); i += 2 {
			up = append(up, node(l[i], l[i+1]))
		}
		all, l = append(all, up), up
	}
	return all
}

// leavesOf are what stands for so many of a seed's keys.
func leavesOf(seed string, n int) []api.Hash {
	var l []api.Hash
	for i := range n {
		l = append(l, lamport.Leaf(lamport.Public(seed, i)))
	}
	return l
}

// rootOf is a tree's root by the chapter's words.
func rootOf(seed string) api.Hash { return levels(leavesOf(seed, 8))[3][0] }

// comesTo is what a leaf and a path of three hashes come to by the chapter's words.
func comesTo(leaf api.Hash, index int, path []api.Hash) api.Hash {
	h := leaf
	for level, beside := range path {
		if index>>level%2 == 0 {
			h = node(h, beside)
		} else {
			h = node(beside, h)
		}
	}
	return h
}

// sameSeal tells whether two seals are one and the same.
func sameSeal(a, b api.Seal) bool {
	return a.Index == b.Index && a.Sig == b.Sig && slices.Equal(a.Path, b.Path)
}

// copied is a seal whose path is a list of its own.
func copied(s api.Seal) api.Seal {
	s.Path = slices.Clone(s.Path)
	return s
}

// sealed is a seal that a tree must tell.
func sealed(t *testing.T, k *Tree, index int, digest api.Hash) api.Seal {
	t.Helper()
	s, e := k.Sign(index, digest)
	if e != api.OK || s.Index != index || len(s.Sig) != 16384 || len(s.Path) != 3 {
		t.Fatalf("Sign of %d, %x: %d, %d bytes, %d hashes, error %d", index, digest, s.Index, len(s.Sig), len(s.Path), e)
	}
	return s
}

// isVerified looks at what Verify told, that was to tell a number.
func isVerified(t *testing.T, what string, root, digest api.Hash, s api.Seal, want api.Errno) {
	t.Helper()
	if e := Verify(root, digest, s); e != want {
		t.Errorf("Verify of %s: error %d, not %d", what, e, want)
	}
}

// isNoSeal looks at what Sign told, that was to tell an error alone.
func isNoSeal(t *testing.T, what string, k *Tree, index int, digest api.Hash, want api.Errno) {
	t.Helper()
	if s, e := k.Sign(index, digest); s.Index != 0 || s.Sig != "" || len(s.Path) != 0 || e != want {
		t.Errorf("Sign of %s, %d: %d, %d bytes, %d hashes, error %d, not %d", what, index, s.Index, len(s.Sig), len(s.Path), e, want)
	}
}

func TestExamples(t *testing.T) {
	k := New("a")
	for _, d := range anyDigests() {
		isNoSeal(t, "the seed a", k, 8, d, api.ErrArg)
		s, e := k.Sign(3, d)
		if s.Index != 3 || len(s.Path) != 3 || e != api.OK {
			t.Errorf("Sign of 3, %x: %d, %d hashes, error %d", d, s.Index, len(s.Path), e)
		}
		isVerified(t, "that", k.Root(), d, s, api.OK)
		isVerified(t, "another digest", k.Root(), sha.Sum("another"), s, api.ErrSign)
	}
}

func TestTreesThatWereTold(t *testing.T) {
	for _, c := range treesTold() {
		k := New(c.seed)
		if k.Root() != unhexed(c.root) {
			t.Errorf("Root of %s: %x, not %s", called(c.seed), k.Root(), c.root)
		}
		for i := range 8 {
			var all strings.Builder
			var path []api.Hash
			for _, d := range digests() {
				s := sealed(t, k, i, d)
				all.WriteString(s.Sig)
				path = s.Path
				isVerified(t, called(c.seed), unhexed(c.root), d, s, api.OK)
			}
			for _, h := range path {
				all.Write(h[:])
			}
			if sum := sha.Sum(all.String()); sum != unhexed(c.sums[i]) {
				t.Errorf("Sign of %s, %d: the sum %x, not %s", called(c.seed), i, sum, c.sums[i])
			}
		}
	}
}

func TestPathsThatWereTold(t *testing.T) {
	k, told := New("a"), levelsTold()
	if k.Root() != unhexed(told[3][0]) {
		t.Errorf("Root: %x, not %s", k.Root(), told[3][0])
	}
	for i := range 8 {
		want := []api.Hash{unhexed(told[0][i^1]), unhexed(told[1][i/2^1]), unhexed(told[2][i/4^1])}
		if s := sealed(t, k, i, sha.Sum("digest")); !slices.Equal(s.Path, want) {
			t.Errorf("Sign of %d: the path %x, not %x", i, s.Path, want)
		}
	}
}

func TestRoots(t *testing.T) {
	seen := map[api.Hash]string{{}: "none"}
	for _, seed := range seeds() {
		h := New(seed).Root()
		if want := rootOf(seed); h != want {
			t.Errorf("Root of %s: %x, not %x", called(seed), h, want)
		}
		if was, ok := seen[h]; ok {
			t.Errorf("Root of %s and of %s: %x", called(was), called(seed), h)
		}
		seen[h] = seed
	}
}

func TestSealsOfAllKeys(t *testing.T) {
	for _, seed := range seeds() {
		k, all := New(seed), levels(leavesOf(seed, 8))
		for i := range 8 {
			want := []api.Hash{all[0][i^1], all[1][i/2^1], all[2][i/4^1]}
			for _, d := range digests() {
				s := sealed(t, k, i, d)
				if s.Sig != lamport.Sign(seed, i, d) {
					t.Errorf("Sign of %s, %d, %x: not the key's signature", called(seed), i, d)
				}
				if !slices.Equal(s.Path, want) {
					t.Errorf("Sign of %s, %d, %x: the path %x, not %x", called(seed), i, d, s.Path, want)
				}
				isVerified(t, called(seed), all[3][0], d, s, api.OK)
			}
		}
	}
}

func TestSealsOfAnyDigests(t *testing.T) {
	k, root := New("seed"), rootOf("seed")
	for _, d := range anyDigests() {
		for i := range 8 {
			s := sealed(t, k, i, d)
			if s.Sig != lamport.Sign("seed", i, d) {
				t.Errorf("Sign of %d, %x: not the key's signature", i, d)
			}
			isVerified(t, fmt.Sprintf("%d, %x", i, d), root, d, s, api.OK)
		}
	}
}

func TestSignOfNoKey(t *testing.T) {
	for _, seed := range []string{"", "a", strings.Repeat("s", 130)} {
		k := New(seed)
		for _, i := range noKeys() {
			for _, d := range digests() {
				isNoSeal(t, called(seed), k, i, d, api.ErrArg)
			}
		}
		for i := -300; i < 300; i++ {
			if i < 0 || i > 7 {
				isNoSeal(t, called(seed), k, i, sha.Sum("digest"), api.ErrArg)
			}
		}
	}
}

func TestTreesThatAreNone(t *testing.T) {
	var unset Tree
	for what, k := range map[string]*Tree{"nil": nil, "a new one": new(Tree), "an empty one": {}, "one that was never set": &unset} {
		if h := k.Root(); h != (api.Hash{}) {
			t.Errorf("Root of %s: %x", what, h)
		}
		for _, d := range digests() {
			for i := range 8 {
				isNoSeal(t, what, k, i, d, api.ErrNil)
			}
			// That it is none is told ahead of what its number is.
			for _, i := range noKeys() {
				isNoSeal(t, what, k, i, d, api.ErrNil)
			}
		}
		if h := k.Root(); h != (api.Hash{}) {
			t.Errorf("Root of %s behind what it did not sign: %x", what, h)
		}
	}
}

func TestTreesDoNotKeepInMindWhatTheySigned(t *testing.T) {
	k, root := New("seed"), rootOf("seed")
	first := sealed(t, k, 5, sha.Sum("digest"))
	for _, i := range []int{5, 0, 5, 7, -1, 8, 5} {
		k.Sign(i, sha.Sum("other"))
	}
	for _, d := range anyDigests() {
		isVerified(t, fmt.Sprintf("the key 5, once more, with %x", d), root, d, sealed(t, k, 5, d), api.OK)
	}
	if !sameSeal(sealed(t, k, 5, sha.Sum("digest")), first) || k.Root() != root {
		t.Error("a seal or a root is another one behind what was signed")
	}
}

func TestVerifyOfNoKey(t *testing.T) {
	k, d := New("seed"), sha.Sum("digest")
	for i := range 8 {
		good := sealed(t, k, i, d)
		for _, other := range noKeys() {
			s := copied(good)
			s.Index = other
			isVerified(t, fmt.Sprint("the number ", other), k.Root(), d, s, api.ErrArg)
			isVerified(t, fmt.Sprint("the number ", other, " with another root"), filled(1), d, s, api.ErrArg)
			isVerified(t, fmt.Sprint("the number ", other, " with another digest"), k.Root(), filled(1), s, api.ErrArg)
			s.Sig = s.Sig[1:]
			isVerified(t, fmt.Sprint("the number ", other, " with fewer bytes"), k.Root(), d, s, api.ErrArg)
			s.Path = s.Path[1:]
			isVerified(t, fmt.Sprint("the number ", other, " with fewer hashes"), k.Root(), d, s, api.ErrArg)
			isVerified(t, fmt.Sprint("the number ", other, " alone"), k.Root(), d, api.Seal{Index: other}, api.ErrArg)
		}
	}
}

// Whatever is recovered is a leaf: a path from it must come to the root where its number among eight has its place.
func TestVerifyOfKeysOfOtherTrees(t *testing.T) {
	d := sha.Sum("digest")
	leaves := leavesOf("seed", 16)
	all := levels(leaves)
	for i, leaf := range leaves {
		sig := lamport.Sign("seed", i, d)
		four := []api.Hash{all[0][i^1], all[1][i/2^1], all[2][i/4^1], all[3][i/8^1]}
		for n := range 16 {
			for length := range 5 {
				want := api.ErrSign
				if n > 7 {
					want = api.ErrArg
				} else if length == 3 && n == i%8 {
					want = api.OK
				}
				s := api.Seal{Index: n, Sig: sig, Path: four[:length]}
				isVerified(t, fmt.Sprint("the leaf ", i, " as ", n, " up to the level ", length), all[length][i>>length], d, s, want)
			}
		}
		s := api.Seal{Index: i % 8, Sig: sig}
		isVerified(t, fmt.Sprint("the leaf ", i, " as a root"), leaf, d, s, api.ErrSign)
	}
}

func TestVerifyOfAnythingThatComesToTheRoot(t *testing.T) {
	random := rand.New(rand.NewSource(99))
	for range 30 {
		b := make([]byte, 16384)
		var d api.Hash
		path := make([]api.Hash, 3)
		random.Read(b)
		random.Read(d[:])
		for n := range path {
			random.Read(path[n][:])
		}
		leaf, e := lamport.Recover(string(b), d)
		if e != api.OK {
			t.Fatal(e)
		}
		for i := range 8 {
			root := comesTo(leaf, i, path)
			for n := range 8 {
				want := api.ErrSign
				if n == i {
					want = api.OK
				}
				isVerified(t, fmt.Sprint("any bytes as ", n, ", with the root of ", i), root, d, api.Seal{Index: n, Sig: string(b), Path: path}, want)
			}
			isVerified(t, "any bytes with another root", turned(root, i), d, api.Seal{Index: i, Sig: string(b), Path: path}, api.ErrSign)
		}
	}
}

func TestVerifyOfAnotherDigest(t *testing.T) {
	k := New("seed")
	for i := range 8 {
		for _, d := range anyDigests() {
			s := sealed(t, k, i, d)
			for _, other := range anyDigests() {
				want := api.ErrSign
				if other == d {
					want = api.OK
				}
				isVerified(t, fmt.Sprintf("%d, %x, with %x", i, d, other), k.Root(), other, s, want)
			}
		}
	}
	for _, d := range digests() {
		s := sealed(t, k, 5, d)
		for bit := range 256 {
			isVerified(t, fmt.Sprintf("%x whose bit %d is another one", d, bit), k.Root(), turned(d, bit), s, api.ErrSign)
		}
	}
}

func TestVerifyOfAnotherRoot(t *testing.T) {
	k, d := New("seed"), sha.Sum("digest")
	all := levels(leavesOf("seed", 8))
	for i := range 8 {
		s := sealed(t, k, i, d)
		for bit := range 256 {
			if bit%8 == i {
				isVerified(t, fmt.Sprint("a root whose bit ", bit, " is another one"), turned(k.Root(), bit), d, s, api.ErrSign)
			}
		}
		for _, level := range all[:3] {
			for n, h := range level {
				isVerified(t, fmt.Sprint(i, " with a hash of ", len(level), " as a root: ", n), h, d, s, api.ErrSign)
			}
		}
		for _, seed := range []string{"", "seee", "seed\x00"} {
			isVerified(t, "the root of "+called(seed), rootOf(seed), d, s, api.ErrSign)
		}
		for _, h := range anyDigests() {
			isVerified(t, fmt.Sprintf("the root %x", h), h, d, s, api.ErrSign)
		}
	}
}

func TestVerifyOfAnotherIndex(t *testing.T) {
	k := New("seed")
	for _, d := range digests() {
		for i := range 8 {
			s := sealed(t, k, i, d)
			for n := range 8 {
				s.Index = n
				want := api.ErrSign
				if n == i {
					want = api.OK
				}
				isVerified(t, fmt.Sprint("what ", i, " signed, as ", n), k.Root(), d, s, want)
			}
		}
	}
}

func TestVerifyOfAnotherByte(t *testing.T) {
	k, d := New("seed"), sha.Sum("digest")
	good := sealed(t, k, 5, d)
	for at := range good.Sig {
		// Of each hash the first and the last byte, and one between that is another one each time.
		if n := at % 32; n != 0 && n != 31 && n != at/32%32 {
			continue
		}
		b := []byte(good.Sig)
		b[at] ^= 1 << (at / 32 % 8)
		s := good
		s.Sig = string(b)
		isVerified(t, fmt.Sprint("another byte at ", at), k.Root(), d, s, api.ErrSign)
	}
	for i := range 8 {
		s := sealed(t, k, i, d)
		for _, at := range []int{0, 100, 8191, 8192, 16383} {
			b := []byte(s.Sig)
			b[at]++
			other := s
			other.Sig = string(b)
			isVerified(t, fmt.Sprint(i, " with another byte at ", at), k.Root(), d, other, api.ErrSign)
		}
	}
}

func TestVerifyOfOtherBytes(t *testing.T) {
	k, d := New("seed"), sha.Sum("digest")
	good := sealed(t, k, 5, d)
	for what, sig := range map[string]string{
		"zeros":              strings.Repeat("\x00", 16384),
		"both halves turned": good.Sig[8192:] + good.Sig[:8192],
		"moved by a hash":    good.Sig[32:] + good.Sig[:32],
		"two hashes turned":  good.Sig[:8192] + good.Sig[8224:8256] + good.Sig[8192:8224] + good.Sig[8256:],
		"another seed":       lamport.Sign("seee", 5, d),
		"another key":        lamport.Sign("seed", 4, d),
		"a key beyond":       lamport.Sign("seed", 8, d),
		"another digest":     lamport.Sign("seed", 5, sha.Sum("other")),
	} {
		s := good
		s.Sig = sig
		isVerified(t, what, k.Root(), d, s, api.ErrSign)
	}
}

func TestVerifyOfMoreOrFewerBytes(t *testing.T) {
	d := sha.Sum("digest")
	for _, seed := range []string{"", "seed"} {
		k := New(seed)
		good := sealed(t, k, 5, d)
		long := good.Sig + good.Sig
		for n := range len(long) + 1 {
			want := api.ErrSign
			if n == 16384 {
				want = api.OK
			}
			s := good
			s.Sig = long[:n]
			isVerified(t, fmt.Sprint(n, " bytes"), k.Root(), d, s, want)
		}
		for _, sig := range []string{good.Sig[1:], good.Sig + "\x00", "\x00" + good.Sig, strings.Repeat(good.Sig, 4)} {
			s := good
			s.Sig = sig
			isVerified(t, fmt.Sprint(len(sig), " other bytes"), k.Root(), d, s, api.ErrSign)
		}
	}
}

// Bytes that are no signature must be none even under a root that holds what is told with the error, or what stands for the key.
func TestVerifyOfMoreOrFewerBytesUnderAnyRoot(t *testing.T) {
	d := sha.Sum("digest")
	path := leavesOf("any", 3)
	for i := range 8 {
		for _, leaf := range []api.Hash{{}, sha.Sum(""), sha.Sum("\x04"), lamport.Leaf(lamport.Public("seed", i))} {
			root := comesTo(leaf, i, path)
			for _, sig := range []string{"", "a", string(leaf[:]), strings.Repeat("\x00", 16383), strings.Repeat("\x00", 16385), lamport.Sign("seed", i, d)[1:]} {
				isVerified(t, fmt.Sprint(len(sig), " bytes"), root, d, api.Seal{Index: i, Sig: sig, Path: path}, api.ErrSign)
			}
		}
	}
}

func TestVerifyOfAnotherHashInThePath(t *testing.T) {
	k, d := New("seed"), sha.Sum("digest")
	for i := range 8 {
		good := sealed(t, k, i, d)
		for n := range good.Path {
			for bit := range 256 {
				if bit%8 != i {
					continue
				}
				s := copied(good)
				s.Path[n] = turned(s.Path[n], bit)
				isVerified(t, fmt.Sprint(i, " with the bit ", bit, " of the hash ", n, " turned"), k.Root(), d, s, api.ErrSign)
			}
			for _, h := range []api.Hash{{}, filled(255), k.Root(), good.Path[(n+1)%3], leavesOf("seed", i+1)[i]} {
				s := copied(good)
				s.Path[n] = h
				isVerified(t, fmt.Sprintf("%d with %x as the hash %d", i, h, n), k.Root(), d, s, api.ErrSign)
			}
		}
		for _, order := range [][3]int{{0, 2, 1}, {1, 0, 2}, {1, 2, 0}, {2, 0, 1}, {2, 1, 0}} {
			s := copied(good)
			for n, from := range order {
				s.Path[n] = good.Path[from]
			}
			isVerified(t, fmt.Sprint(i, " with the path in the order ", order), k.Root(), d, s, api.ErrSign)
		}
		for n := range 8 {
			if n == i {
				continue
			}
			s := copied(good)
			s.Path = sealed(t, k, n, d).Path
			isVerified(t, fmt.Sprint(i, " with the path of ", n), k.Root(), d, s, api.ErrSign)
		}
	}
}

func TestVerifyOfAShorterOrLongerPath(t *testing.T) {
	k, d := New("seed"), sha.Sum("digest")
	for i := range 8 {
		good := sealed(t, k, i, d)
		p := good.Path
		for what, path := range map[string][]api.Hash{
			"none":              nil,
			"an empty one":      {},
			"the first alone":   p[:1],
			"the first two":     p[:2],
			"the last two":      p[1:],
			"the last alone":    p[2:],
			"one more":          append(slices.Clone(p), api.Hash{}),
			"the root behind":   append(slices.Clone(p), k.Root()),
			"the last twice":    append(slices.Clone(p), p[2]),
			"the first twice":   append([]api.Hash{p[0]}, p...),
			"nothing ahead":     append([]api.Hash{{}}, p...),
			"all twice":         slices.Concat(p, p),
			"a great many more": append(slices.Clone(p), make([]api.Hash, 5000)...),
		} {
			s := good
			s.Path = path
			isVerified(t, fmt.Sprint(i, " with a path that is ", what), k.Root(), d, s, api.ErrSign)
		}
	}
}

func TestVerifyOfNothing(t *testing.T) {
	for i := range 8 {
		for _, root := range []api.Hash{{}, sha.Sum(""), rootOf("seed"), filled(255)} {
			isVerified(t, "nothing", root, sha.Sum("digest"), api.Seal{Index: i}, api.ErrSign)
		}
	}
}

func TestAnswersAreTheSameAgain(t *testing.T) {
	k, d := New("seed"), sha.Sum("digest")
	root, seal := k.Root(), sealed(t, k, 5, d)
	other := copied(seal)
	other.Index = 4
	again := func(k *Tree) bool {
		s, e := k.Sign(5, d)
		return k.Root() == root && sameSeal(s, seal) && e == api.OK && Verify(root, d, seal) == api.OK && Verify(root, d, other) == api.ErrSign
	}
	// What is asked between, of other trees, of none, and of this one, alters nothing.
	for _, seed := range []string{"", "other", "seed"} {
		between := New(seed)
		for i := -1; i < 9; i++ {
			between.Sign(i, filled(1))
			k.Sign(i, sha.Sum("other"))
			new(Tree).Sign(i, d)
		}
		Verify(between.Root(), d, seal)
		Verify(root, d, api.Seal{})
		if !again(k) || !again(New("seed")) {
			t.Errorf("behind %s answers are other ones", called(seed))
		}
	}
	var all sync.WaitGroup
	for range 8 {
		all.Go(func() {
			if !again(k) || !again(New("seed")) {
				t.Error("side by side answers are other ones")
			}
		})
	}
	all.Wait()
}

func TestListsStayAsTheyWere(t *testing.T) {
	k, d := New("seed"), sha.Sum("digest")
	for i := range 8 {
		s := sealed(t, k, i, d)
		long := append(slices.Clone(s.Path), filled(9), filled(8))
		was := slices.Clone(long)
		for n := range len(long) + 1 {
			s.Path = long[:n]
			Verify(k.Root(), d, s)
			if !slices.Equal(long, was) {
				t.Errorf("a path of %d hashes was changed, or what is behind it", n)
			}
		}
	}
}

func TestListsThatAreToldAreTheCallersOwn(t *testing.T) {
	k, d := New("seed"), sha.Sum("digest")
	root := k.Root()
	for i := range 8 {
		first := sealed(t, k, i, d)
		kept, second := copied(first), sealed(t, k, i, d)
		clear(first.Path[:cap(first.Path)])
		if !sameSeal(second, kept) || !sameSeal(sealed(t, k, i, d), kept) || k.Root() != root {
			t.Errorf("what is told of %d is another one by a path that was told ahead", i)
		}
		for n := range 8 {
			isVerified(t, fmt.Sprint(n, " behind a path that was changed"), root, d, sealed(t, k, n, d), api.OK)
		}
	}
}

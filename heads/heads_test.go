package heads

import (
	"bytes"
	"encoding/hex"
	"fmt"
	"math"
	"math/rand"
	"slices"
	"strings"
	"sync"
	"testing"

	"speculum/api"
	"speculum/keytree"
	"speculum/lamport"
	"speculum/sha"
)

// digestTold is what is signed of heads of a Size, and each of the roots, as another program told it.
type digestTold struct {
	size int
	sums [4]string
}

// roots are those of digestsTold, in that order.
func roots() [4]api.Hash {
	var steps api.Hash
	for i := range steps {
		steps[i] = byte(i)
	}
	return [4]api.Hash{{}, filled(255), sha.Sum("root"), steps}
}

// digestsTold are what is signed of heads, as another program told it.
func digestsTold() []digestTold {
	return []digestTold{
		{0, [4]string{
			"ef75c7f1fd765274b2e9497a2fd83f84141c4834c1e46d678125b1246e3094b7",
			"ec46ec8cbeb546f7133e142bea8a60290f30b11d6fe476d74ce21a6cb1433fb5",
			"bbe6313e37f0821a8be5347d8f540125d39884ef0b137c39bb5857287cc7eaab",
			"c3d72eaf51fefccd6506e74c9fd164f5e26587723c0c7dac0c8d4abef2cf1a0b",
		}},
		{1, [4]string{
			"6680d9aa4e922b08f0d358c4a1e1b26be4e29ee89453dc0dcd1a5b50d1f3da59",
			"9fc03362bf505b632d45b797245da0885fa482a1a8ab0260519d8e4361a3b7cb",
			"449945f011dbfa578d846a02a364bd21e3d0439d84cf61d39a1e6a7d0ee1ebda",
			"b3c691e2f954135ca56bf4762156529ba3db6b172eb0046730c2d2ca5ce8764a",
		}},
		{127, [4]string{
			"2426bd940937e8b44a84c2ac56928ac2b4c8d4d24ac6ba4f276a2755f1f7fa22",
			"42adb699183c686aead394b87d87ee4eb5c5db4ed93719b2156664bd2b547a4a",
			"6f55d194d0d516a73edc8f1c0e9b75fba9cb15be515a2ea238e287d1bf4a1cf3",
			"c5c935ad8f1367d8ed21a9fba75518432c4bde6a3099b3d0c4a92f3eba5c4b37",
		}},
		{128, [4]string{
			"46fd09e0507eda743b8c91deb464badf5557922d15efd9821cf9bdc54b6fec7a",
			"97dc2ea23458a912dcf841080cc83a370976dd1235e2b2ccd8dee26491c7f39c",
			"839536cab579d1bfb14c47ade9bd68e05e153ad4a8a392db0f5f7e48760d3261",
			"616013b9dc216f2e9bef5030bb98608304912dceb6b1ecfb40f1ad13dc62249f",
		}},
		{255, [4]string{
			"0cef6b5da17ac5d21a487a98c816610464a2ccaf2bb95eac1aa7c2bda1eb2ad3",
			"7a6816369679b306ba699e17e681fcaf09a616262da4a76fe3e939a2e644c379",
			"b28a93794455bf2ed09e7c978b78a280327d890b785f4abe95d07dfa0bb4c1b0",
			"13406bf2cf4af7d14a69a9c1972250f832f01505cc3a911389f3be96e3037583",
		}},
		{256, [4]string{
			"19b693c7448bed0019d3009b405c7b64b3ca3011f00e9492251b4d6ea20ccbac",
			"b6ac6feb02750af64d49b435bb72ebfeb26f29dbac7d3b8a33da67369953d6e4",
			"33154124534b12f247d0db98fdf781da0e0ac3b4b0ed525c122443e3b6344ee9",
			"df9e8520738e10e4239ec10c8acc17122c69e3bb68c980c97179ed59170e09ec",
		}},
		{300, [4]string{
			"85202c4415fba5a186d0a4af8603205e90219e34220931c2e97e32263cfc6f8f",
			"f500159ff496918bc918c9dbe9d965d7dea63f09ca1e5a318e9367885f8d1f5f",
			"bcec947761de17367d9215a0d850770cb0c369e2456e417e245760a03235c6e7",
			"185d071ac1a03bbf06e4c6ba0d3988d9541572de0a43f5bad62f18024edb067a",
		}},
		{4095, [4]string{
			"e78762c837770b7a716eb902f1706088da3d375cd8dc0bec9b29eb8707fc4199",
			"e6f9d6b978d57b82b140f792837d5b7bc1d6b61cf6f8e885664fddb485740834",
			"64f17593ddcf1d398a5b3b04e419f0505227e39fbdc290c8e3f52f9e65a3c4ff",
			"88ed13d85ad4957eba5ed51debb5554e54027d6bfdd240eaa9497e59b994686a",
		}},
		{4096, [4]string{
			"45b20255973e44ddbd6e4a054182b029178b66d91c91384698927617e0481616",
			"f2c9a2b6fd8ceec07e49f416e66ab988809cf442197682a88777c26c2e6b01e8",
			"093d2f5dac1ad2ebe66933a310c3da0caedce9f2385d9b45b808c23d7efe869a",
			"33e04295878d6c0b721286fcd37b31bd5a360d2cf4a46b4b3259b6fa2a6291ed",
		}},
		{4097, [4]string{
			"db54ca7bb18be7a680ad5916ab73c6ffc96881ebcb3a7a13c6d75c12cbc0ca0d",
			"cc41770f0e0223b5d8b113aa8cb7c977df7abe0c66b96c26ebb4d614bd8645ee",
			"9230ce95546b3cbc1111a85bb17c772df09b15fff57004f50e8e66c5aae2c96d",
			"60e540fff454a152b707873855db4fb2fb69f9204af243dd03af717cbb438f7d",
		}},
		{1 << 32, [4]string{
			"64f746de94966e4cc4f92f2158b872f91e3186bed11e6ee46a1f28cc6d2848da",
			"7d49a35e06caf24e2ce2b4ac1d49aa897cee044236f59a4656fed46d053449d3",
			"a2f869fb03800f6367d2186bf610d8aa1532d8b7456de7d8f094f1a1b0674764",
			"a034ced8250dc87ce917473a05f5414bcb9a72d9714ac7517670da613eff0111",
		}},
		{math.MaxInt, [4]string{
			"4f2534c86f4da3f7201e836c70abfa67b85d348e2e06fea6a210c163bedd2102",
			"0f9054282bd9cfa67b78425bbc9f72e4f1e78828b8ce34ae4c10a7742f64592a",
			"1bd6507d9a7fdec110f36296188586a5627895656c2d8fe5eb2c1123a87a5731",
			"ea95f8e5abd9f05afaecb3f0f15a80a64af9b5ff587057dc1bae81208273d31d",
		}},
		{-1, [4]string{
			"c3e01953bbefb50c3b25cc434b0d01d16ee67e68ab97041dd7e25931093f843b",
			"c8f35cba5b6bc3f9c6e073995f4a23f08ad0c01861b93ffa64d116d15525d937",
			"6c23608d7be94012a77e73b02a2db128cd1bce5ae45c678d791fc9ca8d959bdc",
			"45372abeb47156c957a07159d307b1e9246cffa9784b365610dedda032f5dc5b",
		}},
		{-256, [4]string{
			"39c83125432f82b58b3d6e2bd8ee89233ac3f7a582c55e294454ed5799a28300",
			"20d675deee266bbb495f887f108dc7b1e6630e6776d326c14e4cfe9c25eba8cd",
			"c42eb652653d4ea0ef423f09ef11ace7622b00c083d08404917f7b26248c4269",
			"58676429c1be38c7bc3e9e14825525cd674976618812fce363351ce105fd971f",
		}},
		{math.MinInt, [4]string{
			"deaf7cebf8ebc135bba8e6a435b33f6ea1bda4b771832af11e0742d2c6ab5d13",
			"6fea151d9aa0b5f7cdace1d05a76983716f3b4a847470ed22249ea02cae8e014",
			"a83c53fd7286b472eff699243ebe5ed8bac126372e59b35ea3544a34b6e37c23",
			"436760da16045f78598d35f00d265746994b9ce28fe2aa2c66ca4bf3c8bacb18",
		}},
	}
}

// signedTold is a tree of keys as another program told it: its seed, its root, and for each key the sum of the bytes of the head that it signed.
type signedTold struct {
	seed, root string
	sums       [8]string
}

// headsTold are the heads that the keys of signedTold signed, in that order.
func headsTold() [8]api.Head {
	r := roots()
	return [8]api.Head{
		{Size: 0, Root: r[0]}, {Size: 1, Root: r[1]}, {Size: 127, Root: r[2]}, {Size: 128, Root: r[3]},
		{Size: 300, Root: r[0]}, {Size: 4095, Root: r[1]}, {Size: 4096, Root: r[2]}, {Size: 0, Root: r[3]},
	}
}

// allSignedTold are trees of keys as another program told them.
func allSignedTold() []signedTold {
	return []signedTold{
		{"", "def90213128dd606eaf88c2ac1044b1a6c6b33caa76507bfa3352662a16c38ab", [8]string{
			"c4ca0f909fe45e69333065b693b80269283453332f4cadfaf298543da0eefe72",
			"5a7d158b7f7a7d8fbe1fddff9257c602ce0686f909a9664871c646e2cbeac068",
			"7d71b807fb6747ff65ccd419d5fc74889336222ddc4d7428518352e40f7efbb9",
			"adc1cad57c47ecfe1b8ab8146ca909e33ab66cf9ab1778a4033f645da8f78606",
			"d89fc4a860e456627f97eb5e62db6fea5c947e1c56f139fc03c7dca44bf28a16",
			"015e258e0cb27305cd8063cf09166b70f879a6da34982c1ce19c1bd1a0ec0e40",
			"3d2bf9ac22232ba635d9f2e71f7948e36385781d673583438fa5483f2f9e7730",
			"4693542eb04f859663d09c351229c8d64a6effb0d6d6309ec616b538e05e728e",
		}},
		{"a", "aaf45184db98c8fc2bcd5f9a124203f450190c7886f89d518d2cf8d2b6059fda", [8]string{
			"08d45641bb785279e2ef39f40b08b43b78997e75fcfc47804beb2586ed1cfd68",
			"5e42087246b7f3f6794e5557a425e54e588e66d42340d78ec74ad72ced60305d",
			"2c81bf0da27d764ded29fc72884394c126bc1ee9142ea7910268cad62e0184c0",
			"249f35e9a83b1e063698ba103f5b75094193eb91bae4e8542310f39c11b2f0c8",
			"13f1ff13cfe053ff50a619c07a1ba89e378bf518a9e6d62fbd7f6df045a44df5",
			"94040cde4f2de653955e4fc555bba5de5d1acc7e9e39fa450ca754fdf98c68d3",
			"fa1d21e3dd15c0b53103c90b391f91758088b3f7dea967f7266eaa09da7d6945",
			"20937f882f69c723c3a24ed0f80751424d8a16241400004942e398efb6efe704",
		}},
		{"seed", "c1ac4537f421fa2122fac18906ed7ea8eb7a6a1134876a76933a33555dfdfa97", [8]string{
			"5a061f4f9797b64ed118a500b34d7a19d52fb2f6a5f1ae4bfc7b4938afef5aec",
			"afeb3fa930841453894fa48e670d78d3d9cab2c240ef389524b058266bc69b2e",
			"da1997f940a259f576ed8ff58114c8c34541b729659e3794e8e1324b5ba897d0",
			"149d708726ed5b96eca590f813cfb810f869b4b4e654eb0d75ce3bc08ca270c3",
			"77fabd395a8269c7bb411154ea1d137546895edfb296b547504860b479c06429",
			"07e3a1ce94dd60207e1a186ac3d7a0f1655949749ebdaa131464bd5941d29925",
			"ad29816e3c38f25738b1687b8e93c70476f832c11c7b88247558c40587b9fb74",
			"c756e1594f0e4e2ef6f386b252c58e6db4308780f5923f86f85776939adeea41",
		}},
		{"größe €", "2e82843ccab9adaaba5411a5281ac39f96f75d6b8f73389c0def66f51fe6beef", [8]string{
			"cfb59104ade171eb57b5daa94682c48b5741ef91686f8b4cf546daf711983a39",
			"aa7d57dd2dc0d9186820162569714c27cd78e153b8135231a165c168b90d7508",
			"415657c1e9667334ceeac96855359443b7f8a251dcdae5ff52abad4b963e9376",
			"122c89eba48892423776eb0f4f88e9d1a21476bea33d440019e4a7e56c69bd35",
			"7c401530a1b5f2c5f7f9c44a5356e60b6566b5f0f8a27ab0f96e13dc38684a37",
			"c1117c0a5bcdd7a8f1fcf17e15e1a63f9f51c8c31a0ac75b312b136079d6ecef",
			"b86ac6c4f0ae4020445eec2935465900fa797a18d11b6534039180f51fe1f82c",
			"a7f8d561d7c79971b384ee228cdef19bfd371167cfc799bd3a4f19cd14ad6bb3",
		}},
		{strings.Repeat("s", 128), "b19f523c7639f3b5456588d8b2e9e54dc38753cf9ae816b50e2973ab270b1024", [8]string{
			"20f83a39869f3487fe16e1583426baa35cb34d9a69a98601a956b9655de14cbc",
			"d876446ec2d4a239b3acb41daa3b9e8c6f048b290417a2b71d578018514efb60",
			"6d223393d1c69bc738dbcbdec3a82f5ca46bb9ab19c5a49e93a03c14a1e3f5dd",
			"17a2a196f8c5e999cea8a1924325a9a7adafe9ce1e9815618549f10f63d253b0",
			"535d80b5f7a359e739e826c6f2f89d374f8a26a0f84c582685ace141a9affbf1",
			"8a6b6a11345b17e17e15b79f8302b35d9f4a58cf04f3cea197a7e4b7ddb5766a",
			"17f1d1c2ba21d3839a72bbaa9f4eb0c8388ea3cff6f3d979f26cc547e2f3ef3d",
			"8903f5c832c091c90b4297414ed83ca07e89fabe2c9c69d89c9a67a5a56a262a",
		}},
	}
}

// filled is a hash of one byte, over and over.
func filled(b byte) api.Hash { return api.Hash(bytes.Repeat([]byte{b}, 32)) }

// unhexed is the hash that a text to the base 16 tells.
func unhexed(s string) api.Hash {
	b, err := hex.DecodeString(s)
	if err != nil {
		panic(err)
	}
	return api.Hash(b)
}

// turned is a hash with a bit that is turned, 0 being the highest one of the first byte.
func turned(h api.Hash, bit int) api.Hash {
	h[bit/8] ^= 128 >> (bit % 8)
	return h
}

// digestOf is what is signed of a head by the chapter's words.
func digestOf(h api.Head) api.Hash {
	text := []byte{5}
	for place := 56; place >= 0; place -= 8 {
		text = append(text, byte(h.Size>>place))
	}
	return sha.Sum(string(append(text, h.Root[:]...)))
}

// num is a number's bytes by the chapter's words.
func num(n uint64) string {
	s := string(rune(n % 128))
	for n /= 128; n > 0; n /= 128 {
		s = string([]byte{byte(n%128) | 128}) + s
	}
	return s
}

// hashes are the bytes of some, behind one another.
func hashes(l ...api.Hash) string {
	var s strings.Builder
	for _, h := range l {
		s.Write(h[:])
	}
	return s.String()
}

// parts are a signed head's bytes, one text a part; numbers are texts, so that they may be written in other ways.
type parts struct {
	size, root, index, length, sig, count, path string
}

// partsOf are the bytes of a signed head by the chapter's words.
func partsOf(s api.Signed) parts {
	return parts{
		size:   num(uint64(s.Head.Size)),
		root:   hashes(s.Head.Root),
		index:  num(uint64(s.Seal.Index)),
		length: num(uint64(len(s.Seal.Sig))),
		sig:    s.Seal.Sig,
		count:  num(uint64(len(s.Seal.Path))),
		path:   hashes(s.Seal.Path...),
	}
}

// text is all of the parts, behind one another.
func (p parts) text() string {
	return p.size + p.root + p.index + p.length + p.sig + p.count + p.path
}

// anyHash is one of a random source.
func anyHash(random *rand.Rand) (h api.Hash) {
	random.Read(h[:])
	return h
}

// anySigned is a signed head that may be, whose signature is any bytes.
func anySigned(seed int64) api.Signed {
	random := rand.New(rand.NewSource(seed))
	sig := make([]byte, 16384)
	random.Read(sig)
	return api.Signed{
		Head: api.Head{Size: random.Intn(4097), Root: anyHash(random)},
		Seal: api.Seal{Index: random.Intn(8), Sig: string(sig), Path: []api.Hash{anyHash(random), anyHash(random), anyHash(random)}},
	}
}

// filledSigned is one that may be, all whose bytes are the same, as far as they may.
func filledSigned(b byte) api.Signed {
	h := filled(b)
	return api.Signed{
		Head: api.Head{Size: int(b) % 4097, Root: h},
		Seal: api.Seal{Index: int(b) % 8, Sig: strings.Repeat(string([]byte{b}), 16384), Path: []api.Hash{h, h, h}},
	}
}

// copied is a signed head whose path is a list of its own.
func copied(s api.Signed) api.Signed {
	s.Seal.Path = slices.Clone(s.Seal.Path)
	return s
}

// signed is a head that a key of a tree signed.
func signed(t *testing.T, k *keytree.Tree, index int, h api.Head) api.Signed {
	t.Helper()
	seal, e := k.Sign(index, digestOf(h))
	if e != api.OK {
		t.Fatal(e)
	}
	return api.Signed{Head: h, Seal: seal}
}

// isSame tells whether two signed heads are one and the same, part by part.
func isSame(a, b api.Signed) bool {
	return a.Head.Size == b.Head.Size && a.Head.Root == b.Head.Root && a.Seal.Index == b.Seal.Index && a.Seal.Sig == b.Seal.Sig && slices.Equal(a.Seal.Path, b.Seal.Path)
}

// isNothing tells whether all of a signed head is zero.
func isNothing(s api.Signed) bool {
	return s.Head == (api.Head{}) && s.Seal.Index == 0 && s.Seal.Sig == "" && len(s.Seal.Path) == 0
}

// told is a signed head in a report.
func told(s api.Signed) string {
	return fmt.Sprint("size ", s.Head.Size, ", index ", s.Seal.Index, ", ", len(s.Seal.Sig), " bytes, ", len(s.Seal.Path), " hashes")
}

// isNone looks at what is told of a signed head that may not be.
func isNone(t *testing.T, what string, s api.Signed) {
	t.Helper()
	if Valid(s) {
		t.Errorf("Valid of %s: true", what)
	}
	if text, e := Put(s); text != "" || e != api.ErrArg {
		t.Errorf("Put of %s: %d bytes, error %d", what, len(text), e)
	}
	isChecked(t, what, api.Hash{}, s, api.ErrArg)
}

// isPut looks at what is told of a signed head that may be: its bytes, and that it is got of them.
func isPut(t *testing.T, what string, s api.Signed) {
	t.Helper()
	if !Valid(s) {
		t.Errorf("Valid of %s: false", what)
	}
	text, e := Put(s)
	if text != partsOf(s).text() || e != api.OK {
		t.Errorf("Put of %s: %d bytes, error %d", what, len(text), e)
	}
	isGot(t, what, text, s)
}

// isGot looks at what Get told, that was to tell a signed head, and that this is put as these bytes.
func isGot(t *testing.T, what, text string, want api.Signed) {
	t.Helper()
	s, e := Get(text)
	if !isSame(s, want) || e != api.OK {
		t.Errorf("Get of %s: %s, error %d, not %s", what, told(s), e, told(want))
	}
	if again, e := Put(s); again != text || e != api.OK {
		t.Errorf("Put of what was got of %s: %d bytes, error %d", what, len(again), e)
	}
}

// isNotGot looks at what Get told, that was to tell an error alone.
func isNotGot(t *testing.T, what, text string) {
	t.Helper()
	if s, e := Get(text); !isNothing(s) || e != api.ErrForm {
		t.Errorf("Get of %s: %s, error %d", what, told(s), e)
	}
}

// isChecked looks at what Check told, that was to tell a number.
func isChecked(t *testing.T, what string, key api.Hash, s api.Signed, want api.Errno) {
	t.Helper()
	if e := Check(key, s); e != want {
		t.Errorf("Check of %s: error %d, not %d", what, e, want)
	}
}

// noSizes are such as no head may have, some of them one that it may but for what is beyond some bytes.
func noSizes() []int {
	return []int{-1, -2, -300, -4096, -4097, math.MinInt32, math.MinInt, math.MinInt + 300,
		4097, 4098, 8192, 65535, 65536, 1<<31 - 1, 1 << 31, 1 << 32, 1<<32 + 300, math.MaxInt - 1, math.MaxInt}
}

// noIndices are such as no seal may have.
func noIndices() []int {
	return []int{-1, -2, -7, -8, math.MinInt32, math.MinInt, math.MinInt + 3,
		8, 9, 15, 16, 255, 256, 259, 4096, 65536, 1 << 31, 1 << 32, 1<<32 + 3, math.MaxInt}
}

func TestExamples(t *testing.T) {
	three, four, other := api.Head{Size: 3}, api.Head{Size: 4, Root: sha.Sum("a")}, api.Head{Size: 4, Root: sha.Sum("b")}
	if n := Order(three, four); n != Older {
		t.Errorf("Order of 3 and 4: %d", n)
	}
	if n := Order(four, other); n != Fork {
		t.Errorf("Order of 4 and 4: %d", n)
	}
	isNone(t, "a head without a signature", api.Signed{Head: four})
	isNone(t, "nothing", api.Signed{})
	isNotGot(t, "nothing", "")
}

func TestDigestsThatWereTold(t *testing.T) {
	for _, c := range digestsTold() {
		for i, root := range roots() {
			if d := Digest(api.Head{Size: c.size, Root: root}); d != unhexed(c.sums[i]) {
				t.Errorf("Digest of %d, %x: %x, not %s", c.size, root, d, c.sums[i])
			}
		}
	}
}

func TestDigestsOfAnyHeads(t *testing.T) {
	random := rand.New(rand.NewSource(10))
	sizes := append(noSizes(), 0, 1, 2, 127, 128, 255, 256, 300, 4095, 4096)
	for place := range 64 {
		sizes = append(sizes, 1<<place+3, int(random.Uint64()))
	}
	seen := map[api.Hash]int{}
	for _, size := range sizes {
		root := anyHash(random)
		for _, h := range []api.Head{{Size: size}, {Size: size, Root: filled(255)}, {Size: size, Root: root}} {
			d := Digest(h)
			if want := digestOf(h); d != want {
				t.Errorf("Digest of %d, %x: %x, not %x", size, h.Root, d, want)
			}
			if was, ok := seen[d]; ok {
				t.Errorf("Digest of %d and of %d: %x", was, size, d)
			}
			seen[d] = size
		}
	}
	h := api.Head{Size: 300, Root: sha.Sum("root")}
	for bit := range 256 {
		other := api.Head{Size: 300, Root: turned(h.Root, bit)}
		if d := Digest(other); d != digestOf(other) || d == Digest(h) {
			t.Errorf("Digest of a root whose bit %d is another one: %x", bit, d)
		}
	}
}

func TestSignedHeadsThatWereTold(t *testing.T) {
	for _, c := range allSignedTold() {
		k := keytree.New(c.seed)
		for i, h := range headsTold() {
			seal, e := k.Sign(i, Digest(h))
			if e != api.OK {
				t.Fatal(e)
			}
			s := api.Signed{Head: h, Seal: seal}
			text, e := Put(s)
			if sum := sha.Sum(text); sum != unhexed(c.sums[i]) || e != api.OK {
				t.Errorf("Put of what the key %d signed: the sum %x, error %d, not %s", i, sum, e, c.sums[i])
			}
			isGot(t, fmt.Sprint("what the key ", i, " signed"), text, s)
			isChecked(t, fmt.Sprint("what the key ", i, " signed"), unhexed(c.root), s, api.OK)
		}
	}
}

func TestSizesThatMayBe(t *testing.T) {
	s := anySigned(1)
	for size := -300; size < 4500; size++ {
		s.Head.Size = size
		if Valid(s) != (size >= 0 && size <= 4096) {
			t.Errorf("Valid of the size %d: %t", size, Valid(s))
		}
	}
	for _, size := range []int{0, 1, 2, 127, 128, 129, 300, 4094, 4095, 4096} {
		s.Head.Size = size
		isPut(t, fmt.Sprint("the size ", size), s)
		isChecked(t, fmt.Sprint("the size ", size), api.Hash{}, s, api.ErrSign)
	}
	for _, size := range noSizes() {
		s.Head.Size = size
		isNone(t, fmt.Sprint("the size ", size), s)
	}
}

func TestIndicesThatMayBe(t *testing.T) {
	s := anySigned(2)
	for index := range 8 {
		s.Seal.Index = index
		isPut(t, fmt.Sprint("the index ", index), s)
		isChecked(t, fmt.Sprint("the index ", index), api.Hash{}, s, api.ErrSign)
	}
	for _, index := range noIndices() {
		s.Seal.Index = index
		isNone(t, fmt.Sprint("the index ", index), s)
	}
	for index := -300; index < 300; index++ {
		s.Seal.Index = index
		if Valid(s) != (index >= 0 && index <= 7) {
			t.Errorf("Valid of the index %d: %t", index, Valid(s))
		}
	}
}

func TestSignaturesThatMayBe(t *testing.T) {
	s := anySigned(3)
	long := s.Seal.Sig + s.Seal.Sig
	for n := range len(long) + 1 {
		s.Seal.Sig = long[:n]
		if Valid(s) != (n == 16384) {
			t.Errorf("Valid of %d bytes: %t", n, Valid(s))
		}
	}
	s.Seal.Sig = long[5 : 16384+5]
	isPut(t, "other bytes", s)
	for _, n := range []int{0, 1, 32, 255, 8192, 16383, 16385, 16384 + 32, 32768} {
		s.Seal.Sig = long[:n]
		isNone(t, fmt.Sprint(n, " bytes"), s)
	}
	for what, sig := range map[string]string{"zeros": strings.Repeat("\x00", 16384), "no text": strings.Repeat("\xff\xfe", 8192), "runes": strings.Repeat("€a", 4096)} {
		s.Seal.Sig = sig
		isPut(t, what, s)
	}
	s.Seal.Sig = strings.Repeat("€", 16384)
	isNone(t, "as many runes", s)
}

func TestPathsThatMayBe(t *testing.T) {
	s := anySigned(4)
	long := slices.Concat(s.Seal.Path, s.Seal.Path, make([]api.Hash, 60))
	for n := range len(long) + 1 {
		s.Seal.Path = long[:n]
		if n == 3 {
			isPut(t, "three hashes", s)
			continue
		}
		isNone(t, fmt.Sprint(n, " hashes"), s)
	}
	for what, path := range map[string][]api.Hash{"none": nil, "an empty one": {}, "a great many": make([]api.Hash, 5000)} {
		s.Seal.Path = path
		isNone(t, "a path that is "+what, s)
	}
	s.Seal.Path = make([]api.Hash, 3)
	isPut(t, "three hashes of zeros", s)
}

// What may not be in more than one way may not be either.
func TestSignedHeadsThatMayNotBeInManyWays(t *testing.T) {
	good := anySigned(5)
	for ways := range 16 {
		s := copied(good)
		if ways&1 > 0 {
			s.Head.Size = 4097
		}
		if ways&2 > 0 {
			s.Seal.Index = 8
		}
		if ways&4 > 0 {
			s.Seal.Sig += "x"
		}
		if ways&8 > 0 {
			s.Seal.Path = s.Seal.Path[:2]
		}
		if ways == 0 {
			isPut(t, "what may be", s)
			continue
		}
		isNone(t, fmt.Sprint("what may not be in the ways ", ways), s)
		isNotGot(t, fmt.Sprint("what may not be in the ways ", ways), partsOf(s).text())
	}
}

func TestSame(t *testing.T) {
	good := anySigned(6)
	if !Same(good, good) || !Same(good, copied(good)) || !Same(copied(good), good) {
		t.Error("Same of one and the same: false")
	}
	others := map[string]func(s *api.Signed){
		"a size one more":     func(s *api.Signed) { s.Head.Size++ },
		"a size below 0":      func(s *api.Signed) { s.Head.Size = -s.Head.Size - 1 },
		"no root":             func(s *api.Signed) { s.Head.Root = api.Hash{} },
		"an index one more":   func(s *api.Signed) { s.Seal.Index++ },
		"an index far beyond": func(s *api.Signed) { s.Seal.Index += 1 << 40 },
		"another first byte":  func(s *api.Signed) { s.Seal.Sig = "x" + s.Seal.Sig[1:] },
		"another last byte":   func(s *api.Signed) { s.Seal.Sig = s.Seal.Sig[:16383] + "x" },
		"a byte less":         func(s *api.Signed) { s.Seal.Sig = s.Seal.Sig[:16383] },
		"a byte more":         func(s *api.Signed) { s.Seal.Sig += "\x00" },
		"no bytes":            func(s *api.Signed) { s.Seal.Sig = "" },
		"a hash less":         func(s *api.Signed) { s.Seal.Path = s.Seal.Path[:2] },
		"a hash more":         func(s *api.Signed) { s.Seal.Path = append(s.Seal.Path, api.Hash{}) },
		"no path":             func(s *api.Signed) { s.Seal.Path = nil },
		"two hashes turned":   func(s *api.Signed) { s.Seal.Path[0], s.Seal.Path[2] = s.Seal.Path[2], s.Seal.Path[0] },
	}
	for n := range 3 {
		for bit := range 256 {
			others[fmt.Sprint("the bit ", bit, " of the hash ", n)] = func(s *api.Signed) { s.Seal.Path[n] = turned(s.Seal.Path[n], bit) }
		}
	}
	for bit := range 256 {
		others[fmt.Sprint("the bit ", bit, " of the root")] = func(s *api.Signed) { s.Head.Root = turned(s.Head.Root, bit) }
	}
	for what, change := range others {
		s := copied(good)
		change(&s)
		if Same(s, good) || Same(good, s) {
			t.Errorf("Same of one with %s: true", what)
		}
		if !Same(s, copied(s)) {
			t.Errorf("Same of two with %s: false", what)
		}
	}
}

// A list that is nil and one that is empty are one and the same; what may not be is compared as well.
func TestSameOfWhatMayNotBe(t *testing.T) {
	none, empty := api.Signed{}, api.Signed{Seal: api.Seal{Path: []api.Hash{}}}
	if !Same(none, none) || !Same(none, empty) || !Same(empty, none) {
		t.Error("Same of nothing and nothing: false")
	}
	for _, s := range []api.Signed{anySigned(7), {Head: api.Head{Size: -1}}, {Seal: api.Seal{Index: 9}}, {Seal: api.Seal{Sig: "a"}}, {Seal: api.Seal{Path: make([]api.Hash, 1)}}} {
		if !Same(s, s) || Same(s, none) || Same(empty, s) {
			t.Errorf("Same of %s", told(s))
		}
	}
}

func TestOrder(t *testing.T) {
	if Older != 0 || Equal != 1 || Newer != 2 || Fork != 3 {
		t.Errorf("how heads stand: %d, %d, %d, %d", Older, Equal, Newer, Fork)
	}
	sizes := append(noSizes(), 0, 1, 2, 300, 4095, 4096)
	for _, a := range sizes {
		for _, b := range sizes {
			for _, x := range roots() {
				for _, y := range roots() {
					want := Fork
					if a < b {
						want = Older
					} else if a > b {
						want = Newer
					} else if x == y {
						want = Equal
					}
					if n := Order(api.Head{Size: a, Root: x}, api.Head{Size: b, Root: y}); n != want {
						t.Errorf("Order of %d, %x and %d, %x: %d, not %d", a, x, b, y, n, want)
					}
				}
			}
		}
	}
	h := api.Head{Size: 3, Root: sha.Sum("root")}
	for bit := range 256 {
		other := api.Head{Size: 3, Root: turned(h.Root, bit)}
		if Order(h, other) != Fork || Order(other, h) != Fork {
			t.Errorf("Order of heads whose bit %d is another one: %d, %d", bit, Order(h, other), Order(other, h))
		}
	}
}

func TestWhatIsPutIsGot(t *testing.T) {
	seen := map[string]string{}
	isNew := func(what string, s api.Signed) {
		isPut(t, what, s)
		text, _ := Put(s)
		if was, ok := seen[text]; ok {
			t.Errorf("Put of %s and of %s: the same bytes", was, what)
		}
		seen[text] = what
	}
	for _, size := range []int{0, 1, 127, 128, 300, 4095, 4096} {
		for index := range 8 {
			s := anySigned(8)
			s.Head.Size, s.Seal.Index = size, index
			isNew(told(s), s)
		}
	}
	for b := range 256 {
		isNew(fmt.Sprint("one whose bytes are ", b), filledSigned(byte(b)))
	}
	for seed := range int64(50) {
		isNew(fmt.Sprint("any one: ", seed), anySigned(100+seed))
	}
}

func TestGetOfWhatIsCutOff(t *testing.T) {
	for _, size := range []int{0, 127, 128, 4096} {
		s := anySigned(9)
		s.Head.Size = size
		text := partsOf(s).text()
		isGot(t, "all of it", text, s)
		for n := range len(text) {
			isNotGot(t, fmt.Sprint("the first ", n, " bytes"), text[:n])
		}
		for n := 1; n < len(text); n++ {
			if n == 1 && size >= 128 {
				// The last byte of such a size is a size, too: these are another one's bytes.
				s.Head.Size = size % 128
				isGot(t, "what is behind the first byte", text[n:], s)
				continue
			}
			isNotGot(t, fmt.Sprint("what is behind the first ", n, " bytes"), text[n:])
		}
	}
}

func TestGetOfWhatHasAnythingBehindIt(t *testing.T) {
	s := anySigned(10)
	s.Head.Size = 300
	text := partsOf(s).text()
	for b := range 256 {
		isNotGot(t, fmt.Sprint("it and the byte ", b), text+string([]byte{byte(b)}))
	}
	for n := 1; n < 300; n++ {
		isNotGot(t, fmt.Sprint("it and ", n, " zeros"), text+strings.Repeat("\x00", n))
	}
	isNotGot(t, "it twice", text+text)
	isNotGot(t, "it and another hash", text+hashes(sha.Sum("a")))
	for b := range 256 {
		isNotGot(t, fmt.Sprint("it behind the byte ", b), string([]byte{byte(b)})+text)
	}
}

func TestGetOfSizes(t *testing.T) {
	good := anySigned(11)
	good.Head.Size = 300
	p := partsOf(good)
	for a := range 256 {
		for b := range 256 {
			p.size = string([]byte{byte(a), byte(b)})
			if size := (a-128)*128 + b; a > 128 && b < 128 && size <= 4096 {
				want := good
				want.Head.Size = size
				isGot(t, fmt.Sprint("the size ", size), p.text(), want)
				continue
			}
			isNotGot(t, fmt.Sprintf("the size %x", p.size), p.text())
		}
	}
	for a := range 256 {
		p.size = string([]byte{byte(a)})
		if a < 128 {
			want := good
			want.Head.Size = a
			isGot(t, fmt.Sprint("the size ", a), p.text(), want)
			continue
		}
		isNotGot(t, fmt.Sprintf("the size %x", p.size), p.text())
	}
	for _, size := range noSizes() {
		p.size = num(uint64(size))
		isNotGot(t, fmt.Sprint("the size ", size), p.text())
	}
}

func TestGetOfIndices(t *testing.T) {
	good := anySigned(12)
	p := partsOf(good)
	for a := range 256 {
		p.index = string([]byte{byte(a)})
		if a < 8 {
			want := good
			want.Seal.Index = a
			isGot(t, fmt.Sprint("the index ", a), p.text(), want)
			continue
		}
		isNotGot(t, fmt.Sprint("the index ", a), p.text())
	}
	for _, index := range noIndices() {
		p.index = num(uint64(index))
		isNotGot(t, fmt.Sprint("the index ", index), p.text())
	}
}

// numbersInMoreBytes are ways to write a number that are none, and numbers that are too great.
func numbersInMoreBytes(n string) []string {
	return []string{"\x80" + n, "\x80\x80" + n, strings.Repeat("\x80", 9) + n, strings.Repeat("\x80", 300) + n, "\xff" + strings.Repeat("\x80", 8) + n,
		"\x81" + strings.Repeat("\x80", 9-len(n)) + n, "\x82" + strings.Repeat("\x80", 9-len(n)) + n, "\x84" + strings.Repeat("\x80", 10) + n,
		"\x90" + strings.Repeat("\x80", 4-len(n)) + n, strings.Repeat("\xff", 9) + "\x7f", ""}
}

func TestGetOfNumbersInMoreBytes(t *testing.T) {
	for _, size := range []int{0, 1, 127, 128, 4096} {
		good := anySigned(13)
		good.Head.Size = size
		p := partsOf(good)
		isGot(t, "numbers in as few bytes as need be", p.text(), good)
		for _, n := range numbersInMoreBytes(p.size) {
			other := p
			other.size = n
			isNotGot(t, fmt.Sprintf("the size %x", n), other.text())
		}
		for _, n := range numbersInMoreBytes(p.index) {
			other := p
			other.index = n
			isNotGot(t, fmt.Sprintf("the index %x", n), other.text())
		}
		for _, n := range numbersInMoreBytes(p.length) {
			other := p
			other.length = n
			isNotGot(t, fmt.Sprintf("the length %x", n), other.text())
		}
		for _, n := range numbersInMoreBytes(p.count) {
			other := p
			other.count = n
			isNotGot(t, fmt.Sprintf("the count %x", n), other.text())
		}
	}
}

func TestGetOfOtherLengths(t *testing.T) {
	good := anySigned(14)
	long := good.Seal.Sig + good.Seal.Sig
	for _, n := range []int{0, 1, 127, 128, 8192, 16383, 16384, 16385, 16511, 16512, 32768} {
		s := good
		s.Seal.Sig = long[:n]
		if n == 16384 {
			isGot(t, "as many bytes as must be", partsOf(s).text(), s)
			continue
		}
		isNotGot(t, fmt.Sprint(n, " bytes"), partsOf(s).text())
		// Bytes that are not as many as they are said to be.
		p := partsOf(good)
		p.length = num(uint64(n))
		isNotGot(t, fmt.Sprint(n, " bytes that are said"), p.text())
		p = partsOf(good)
		p.sig = long[:n]
		isNotGot(t, fmt.Sprint(n, " bytes that are there"), p.text())
	}
}

func TestGetOfOtherPaths(t *testing.T) {
	good := anySigned(15)
	long := slices.Concat(good.Seal.Path, make([]api.Hash, 100))
	for n := range len(long) + 1 {
		s := good
		s.Seal.Path = long[:n]
		if n == 3 {
			isGot(t, "three hashes", partsOf(s).text(), s)
			continue
		}
		isNotGot(t, fmt.Sprint(n, " hashes"), partsOf(s).text())
		p := partsOf(good)
		p.count = num(uint64(n))
		isNotGot(t, fmt.Sprint(n, " hashes that are said"), p.text())
		p = partsOf(good)
		p.path = hashes(long[:n]...)
		isNotGot(t, fmt.Sprint(n, " hashes that are there"), p.text())
	}
}

// Where a signature, a root or a path stands any byte is got; where a length or a count stands no other one is.
func TestGetOfAnotherByte(t *testing.T) {
	good := anySigned(16)
	good.Head.Size = 300
	p := partsOf(good)
	text := p.text()
	isFree := func(at int) bool {
		return at >= 2 && at < 34 || at >= 38 && at < 38+16384 || at > 38+16384
	}
	for at := 2; at < len(text); at++ {
		// Of the signature's bytes some are enough.
		if at > 100 && at < 16300 && at%97 > 0 || at == 34 {
			continue
		}
		b := []byte(text)
		for other := range 256 {
			if byte(other) == text[at] || at > 100 && other%17 > 0 {
				continue
			}
			b[at] = byte(other)
			if !isFree(at) {
				isNotGot(t, fmt.Sprint("the byte ", other, " at ", at), string(b))
				continue
			}
			s, e := Get(string(b))
			if e != api.OK || partsOf(s).text() != string(b) {
				t.Errorf("Get of the byte %d at %d: %s, error %d", other, at, told(s), e)
			}
		}
	}
}

func TestGetOfAnyBytes(t *testing.T) {
	random := rand.New(rand.NewSource(1010))
	for n := range 2000 {
		b := make([]byte, n)
		random.Read(b)
		isNotGot(t, fmt.Sprint(n, " bytes"), string(b))
		isNotGot(t, fmt.Sprint(n, " zeros"), strings.Repeat("\x00", n))
	}
	for _, n := range []int{16517, 16518, 16519, 16520, 65536, 1 << 20} {
		for _, b := range []byte{0, 1, 127, 128, 255} {
			isNotGot(t, fmt.Sprint(n, " times ", b), strings.Repeat(string([]byte{b}), n))
		}
	}
}

func TestCheckOfWhatKeysSigned(t *testing.T) {
	for _, seed := range []string{"", "seed"} {
		k := keytree.New(seed)
		for _, size := range []int{0, 1, 127, 128, 300, 4095, 4096} {
			for _, root := range roots() {
				for index := range 8 {
					s := signed(t, k, index, api.Head{Size: size, Root: root})
					isChecked(t, told(s), k.Root(), s, api.OK)
				}
			}
		}
	}
}

func TestCheckWithAnotherKey(t *testing.T) {
	k := keytree.New("seed")
	s := signed(t, k, 5, api.Head{Size: 300, Root: sha.Sum("root")})
	for bit := range 256 {
		isChecked(t, fmt.Sprint("a key whose bit ", bit, " is another one"), turned(k.Root(), bit), s, api.ErrSign)
	}
	others := append(s.Seal.Path, s.Head.Root, Digest(s.Head), api.Hash{}, filled(255), lamport.Leaf(lamport.Public("seed", 5)))
	for _, seed := range []string{"", "seee", "seed\x00"} {
		others = append(others, keytree.New(seed).Root())
	}
	for _, key := range others {
		isChecked(t, fmt.Sprintf("the key %x", key), key, s, api.ErrSign)
	}
}

func TestCheckOfAnotherSize(t *testing.T) {
	k := keytree.New("seed")
	for i, size := range []int{0, 1, 255, 256, 300, 4095, 4096} {
		good := signed(t, k, i, api.Head{Size: size, Root: sha.Sum("root")})
		for _, other := range []int{0, 1, 2, 44, 255, 256, 257, 299, 300, 301, 2048, 4094, 4095, 4096} {
			s := good
			s.Head.Size = other
			want := api.ErrSign
			if other == size {
				want = api.OK
			}
			isChecked(t, fmt.Sprint(size, " as ", other), k.Root(), s, want)
		}
		for _, other := range noSizes() {
			s := good
			s.Head.Size = other
			isChecked(t, fmt.Sprint(size, " as ", other), k.Root(), s, api.ErrArg)
		}
	}
}

// What may not be may not be even with a signature that is one.
func TestCheckOfWhatMayNotBe(t *testing.T) {
	k := keytree.New("seed")
	for _, size := range noSizes() {
		s := signed(t, k, 3, api.Head{Size: size, Root: sha.Sum("root")})
		isChecked(t, fmt.Sprint("the size ", size), k.Root(), s, api.ErrArg)
		s.Seal.Sig = strings.Repeat("x", 16384)
		isChecked(t, fmt.Sprint("the size ", size, " with other bytes"), k.Root(), s, api.ErrArg)
	}
	good := signed(t, k, 3, api.Head{Size: 300, Root: sha.Sum("root")})
	for _, index := range noIndices() {
		s := good
		s.Seal.Index = index
		isChecked(t, fmt.Sprint("the index ", index), k.Root(), s, api.ErrArg)
		isChecked(t, fmt.Sprint("the index ", index, " with another key"), filled(1), s, api.ErrArg)
	}
	for _, sig := range []string{"", good.Seal.Sig[1:], good.Seal.Sig[:16383], good.Seal.Sig + "x", good.Seal.Sig + good.Seal.Sig} {
		s := good
		s.Seal.Sig = sig
		isChecked(t, fmt.Sprint(len(sig), " bytes"), k.Root(), s, api.ErrArg)
		isChecked(t, fmt.Sprint(len(sig), " bytes with another key"), filled(1), s, api.ErrArg)
	}
	long := append(slices.Clone(good.Seal.Path), good.Seal.Path...)
	for n := range len(long) + 1 {
		if n == 3 {
			continue
		}
		s := good
		s.Seal.Path = long[:n]
		isChecked(t, fmt.Sprint(n, " hashes"), k.Root(), s, api.ErrArg)
		isChecked(t, fmt.Sprint(n, " hashes with another key"), filled(1), s, api.ErrArg)
	}
}

// A key below the tree's root, and a path that is the shorter for it, come to that key, but are no signature of a head.
func TestCheckWithKeysBelowTheRoot(t *testing.T) {
	k := keytree.New("seed")
	s := signed(t, k, 0, api.Head{Size: 300, Root: sha.Sum("root")})
	key := lamport.Leaf(lamport.Public("seed", 0))
	for n, h := range append(slices.Clone(s.Seal.Path), api.Hash{}) {
		below := copied(s)
		below.Seal.Path = s.Seal.Path[:n]
		want := api.ErrArg
		if n == 3 {
			want = api.OK
		}
		isChecked(t, fmt.Sprint("a path of ", n), key, below, want)
		key = sha.Sum("\x01" + string(key[:]) + string(h[:]))
	}
}

func TestCheckOfAnotherRoot(t *testing.T) {
	k := keytree.New("seed")
	good := signed(t, k, 6, api.Head{Size: 300, Root: sha.Sum("root")})
	for bit := range 256 {
		s := good
		s.Head.Root = turned(s.Head.Root, bit)
		isChecked(t, fmt.Sprint("a root whose bit ", bit, " is another one"), k.Root(), s, api.ErrSign)
	}
	for _, root := range []api.Hash{{}, filled(255), k.Root(), Digest(good.Head)} {
		s := good
		s.Head.Root = root
		isChecked(t, fmt.Sprintf("the root %x", root), k.Root(), s, api.ErrSign)
	}
}

func TestCheckOfAnotherIndex(t *testing.T) {
	k := keytree.New("seed")
	for index := range 8 {
		s := signed(t, k, index, api.Head{Size: 300, Root: sha.Sum("root")})
		for other := range 8 {
			s.Seal.Index = other
			want := api.ErrSign
			if other == index {
				want = api.OK
			}
			isChecked(t, fmt.Sprint("what ", index, " signed, as ", other), k.Root(), s, want)
		}
	}
}

func TestCheckOfAnotherByte(t *testing.T) {
	k := keytree.New("seed")
	good := signed(t, k, 2, api.Head{Size: 300, Root: sha.Sum("root")})
	for at := range good.Seal.Sig {
		// Of each hash one byte, each time another one.
		if at%32 != at/32%32 {
			continue
		}
		b := []byte(good.Seal.Sig)
		b[at] ^= 1 << (at / 32 % 8)
		s := good
		s.Seal.Sig = string(b)
		isChecked(t, fmt.Sprint("another byte at ", at), k.Root(), s, api.ErrSign)
	}
	for _, sig := range []string{strings.Repeat("\x00", 16384), good.Seal.Sig[8192:] + good.Seal.Sig[:8192], lamport.Sign("seed", 2, digestOf(api.Head{Size: 301, Root: sha.Sum("root")}))} {
		s := good
		s.Seal.Sig = sig
		isChecked(t, "other bytes", k.Root(), s, api.ErrSign)
	}
}

func TestCheckOfAnotherPath(t *testing.T) {
	k := keytree.New("seed")
	for index := range 8 {
		good := signed(t, k, index, api.Head{Size: 300, Root: sha.Sum("root")})
		for n := range 3 {
			for bit := index; bit < 256; bit += 8 {
				s := copied(good)
				s.Seal.Path[n] = turned(s.Seal.Path[n], bit)
				isChecked(t, fmt.Sprint("the bit ", bit, " of the hash ", n), k.Root(), s, api.ErrSign)
			}
		}
		for _, order := range [][3]int{{0, 2, 1}, {1, 0, 2}, {1, 2, 0}, {2, 0, 1}, {2, 1, 0}} {
			s := copied(good)
			for n, from := range order {
				s.Seal.Path[n] = good.Seal.Path[from]
			}
			isChecked(t, fmt.Sprint("a path in the order ", order), k.Root(), s, api.ErrSign)
		}
		s := good
		s.Seal.Path = signed(t, k, index^1, good.Head).Seal.Path
		isChecked(t, "another key's path", k.Root(), s, api.ErrSign)
	}
}

// Of what a tree's keys signed of heads each is checked with its own head alone.
func TestCheckOfEachSealWithEachHead(t *testing.T) {
	k := keytree.New("seed")
	all := headsTold()
	for i, h := range all {
		seal := signed(t, k, i, h).Seal
		for n, other := range all {
			want := api.ErrSign
			if n == i {
				want = api.OK
			}
			isChecked(t, fmt.Sprint("the seal ", i, " with the head ", n), k.Root(), api.Signed{Head: other, Seal: seal}, want)
		}
	}
}

func TestCheckOfWhatIsGot(t *testing.T) {
	k := keytree.New("seed")
	good := signed(t, k, 4, api.Head{Size: 300, Root: sha.Sum("root")})
	text, e := Put(good)
	if e != api.OK {
		t.Fatal(e)
	}
	s, e := Get(text)
	if e != api.OK || !Same(s, good) {
		t.Errorf("Get: %s, error %d", told(s), e)
	}
	isChecked(t, "what was got", k.Root(), s, api.OK)
	for at := range text {
		if at > 100 && at < 16400 && at%101 > 0 {
			continue
		}
		b := []byte(text)
		b[at] ^= 1
		s, e := Get(string(b))
		if e != api.OK {
			continue
		}
		isChecked(t, fmt.Sprint("what was got with another byte at ", at), k.Root(), s, api.ErrSign)
	}
}

func TestAnswersAreTheSameAgain(t *testing.T) {
	k := keytree.New("seed")
	s := signed(t, k, 1, api.Head{Size: 300, Root: sha.Sum("root")})
	text := partsOf(s).text()
	again := func() bool {
		put, e := Put(s)
		got, f := Get(text)
		_, cut := Get(text[2:])
		return put == text && e == api.OK && isSame(got, s) && f == api.OK && cut == api.ErrForm &&
			Check(k.Root(), s) == api.OK && Check(filled(1), s) == api.ErrSign && Digest(s.Head) == digestOf(s.Head)
	}
	for n := range 20 {
		other := anySigned(int64(n))
		between, _ := Put(other)
		Get(between)
		Get(between[n:])
		Check(k.Root(), other)
		Check(k.Root(), api.Signed{})
		Same(other, s)
		Order(other.Head, s.Head)
		if !again() {
			t.Errorf("behind %d answers are other ones", n)
		}
	}
	var all sync.WaitGroup
	for range 8 {
		all.Go(func() {
			if !again() {
				t.Error("side by side answers are other ones")
			}
		})
	}
	all.Wait()
}

func TestListsStayAsTheyWere(t *testing.T) {
	k := keytree.New("seed")
	s := signed(t, k, 1, api.Head{Size: 300, Root: sha.Sum("root")})
	long := append(slices.Clone(s.Seal.Path), filled(9), filled(8))
	was := slices.Clone(long)
	for n := range len(long) + 1 {
		s.Seal.Path = long[:n]
		Put(s)
		Valid(s)
		Same(s, anySigned(1))
		Same(s, copied(s))
		Check(k.Root(), s)
		if !slices.Equal(long, was) {
			t.Errorf("a path of %d hashes was changed, or what is behind it", n)
		}
	}
}

func TestListsThatAreToldAreTheCallersOwn(t *testing.T) {
	want := anySigned(17)
	text := partsOf(want).text()
	first, _ := Get(text)
	second, _ := Get(text)
	clear(first.Seal.Path[:cap(first.Seal.Path)])
	third, e := Get(text)
	if !isSame(second, want) || !isSame(third, want) || e != api.OK {
		t.Error("what is got is another one by a path that was got ahead")
	}
	// A path that is changed behind it was put is put as it was then.
	s := copied(want)
	put, _ := Put(s)
	clear(s.Seal.Path)
	if put != text {
		t.Error("what was put is another one by a path that was changed")
	}
}

package tag_test

import (
	"fmt"
	"math"
	"math/rand"
	"strings"
	"testing"

	"ratchet/api"
	"ratchet/octet"
	"ratchet/sha"
	"ratchet/tag"
)

// pattern: n bytes that do not repeat with the blocks, begun with s.
func pattern(n int, s byte) []byte {
	b := make([]byte, n)
	for i := range b {
		b[i] = byte(7*i+i/256*3) + s
	}
	return b
}

// letters: a tag or a key in letters, as it is published.
func letters[B []byte | [32]byte](b B) string { return fmt.Sprintf("%x", b) }

// plainOf: P3.1 word by word, all of it laid out ahead of its digest.
func plainOf(key, b []byte) [32]byte {
	k := append([]byte{}, key...)
	if len(k) > 64 {
		d := sha.Sum(k)
		k = append([]byte{}, d[:]...)
	}
	for len(k) < 64 {
		k = append(k, 0)
	}
	var outer, inner []byte
	for _, x := range k {
		outer = append(outer, x^0x5c)
		inner = append(inner, x^0x36)
	}
	d := sha.Sum(append(inner, b...))
	return sha.Sum(append(outer, d[:]...))
}

// P3.4: the tags that the chapter names, and the other ones that are published beside them (RFC 4231).
func TestPublished(t *testing.T) {
	same := func(b byte, n int) string { return strings.Repeat(string([]byte{b}), n) }
	rising := string([]byte{1, 2, 3, 4, 5, 6, 7, 8, 9, 10, 11, 12, 13, 14, 15, 16, 17, 18, 19, 20, 21, 22, 23, 24, 25})
	for _, x := range []struct{ key, b, want string }{
		{same(0x0b, 20), "Hi There", "b0344c61d8db38535ca8afceaf0bf12b881dc200c9833da726e9376c2e32cff7"},
		{"Jefe", "what do ya want for nothing?", "5bdcc146bf60754e6a042426089575c75a003f089d2739839dec58b964ec3843"},
		{same(0xaa, 20), same(0xdd, 50), "773ea91e36800e46854db8ebd09181a72959098b3ef8c122d9635514ced565fe"},
		{rising, same(0xcd, 50), "82558a389a443c0ea4cc819899f2083a85f0faa3e578f8077a2e3ff46729665b"},
		{same(0xaa, 131), "Test Using Larger Than Block-Size Key - Hash Key First", "60e431591ee0b67f0d8a26aacbf5b77f8e0bc6213728c5140546040f0ee37f54"},
		{same(0xaa, 131), "This is a test using a larger than block-size key and a larger than block-size data. The key needs to be hashed before being used by the HMAC algorithm.", "9b09ffa71b942fcb27635fbcd5b0e944bfdc63644f0713938a7f51535c3a35e2"},
	} {
		if got := letters(tag.Of([]byte(x.key), []byte(x.b))); got != x.want {
			t.Errorf("P3.4: Of(%x, %q) = %s and not %s", x.key, x.b, got, x.want)
		}
	}
}

// P3.1: keys on both sides of 64 bytes, and of none, each with no bytes and with some. The tags are those of another program.
func TestKeyLengths(t *testing.T) {
	for _, x := range []struct {
		key, n int
		want   string
	}{
		{0, 0, "b613679a0814d9ec772f95d778c35fc5ff1697c493715653c6c712144292c5ad"},
		{0, 3, "8ef2e4ca932179aff0985b29107c372c349a8f0f4d2a6380eca27c88623d6834"},
		{1, 0, "2f8738164025afdddbc18665c6e8f37de9498db7fd194873c61ee30c22192a9a"},
		{1, 3, "1b819e95144c11006d7241f1164fdcc3443c20354aad60fb4bda4c59833a06f4"},
		{31, 3, "0fc4503ca8e470378849c574fd88016b9f6dd3f7b40f94ff979a7d7be2741801"},
		{32, 3, "6d39007d9488b508c3f31e6a0a11e32e7f4e0dbef330b74873a03f91b2561b73"},
		{33, 3, "9db0d79fc164b28c565f559ffd4bdad2f1863b9e6aaf1c84cec9337764da6325"},
		{63, 0, "963cfdc4e92b3d20fb3ba0d72d3d25e9fac674e6b5ca3e963e7aca7342fafd55"},
		{63, 3, "e671c83a07aabf04b08d7ef6e98744b3559b0d4cdc4f65571ccb063d083fee65"},
		{64, 0, "e85cffc652260de36a1ddbb0cac32dc4cf975b7cdbc0468fc61847947ba83b25"},
		{64, 3, "27f3f7ae195170c44cf9558ee5e3dfc9d3f53ff59bb07799e38987aafc98d33c"},
		{65, 0, "d8dcfa9ddfed8fd078bb0531ba6f4ac3d4fee7417a621c4bc380f0b6e83894eb"},
		{65, 3, "3a0bb80d6fdbaf644c4e553f2d384c2ae6c85aa4f80af1241ff6aacbb6116f62"},
		{66, 3, "38c14fbea8e2fb1660cac7e869f348fa085e55a22e5ffef51d4529853ba015b6"},
		{128, 0, "5df9d815de1cf64d6622187632ecc1bcfd000b47f32438a8a8c5a8a1492cd339"},
		{128, 3, "411a2729c7a76276b2fe84eb9dafea6adf3b3cb7d1e743a6c3db24c978af3f47"},
		{1000, 0, "d480ef8b539ee768da871a0528f3122d0f37f977fc29fa60dbb06c1c887cc10f"},
		{1000, 3, "4a2ec4369bf21598990f266caba6233b29b56131f86ab96a1f3284b3d695935a"},
	} {
		if got := letters(tag.Of(pattern(x.key, 1), pattern(x.n, 2))); got != x.want {
			t.Errorf("P3.1: a key of %d bytes, %d bytes: %s and not %s", x.key, x.n, got, x.want)
		}
	}
}

// P3.1: every length of the key up to 200, of the bytes up to 300, and both together, by the digest of all the tags.
func TestAllLengths(t *testing.T) {
	var keys, texts, both []byte
	put := func(all []byte, key, n int) []byte {
		d := tag.Of(pattern(key, 1), pattern(n, 2))
		return append(all, d[:]...)
	}
	for n := range 201 {
		keys = put(keys, n, 5)
	}
	for n := range 301 {
		texts = put(texts, 40, n)
	}
	for key := 0; key < 140; key += 3 {
		for n := 0; n < 140; n += 3 {
			both = put(both, key, n)
		}
	}
	for _, x := range []struct {
		name string
		all  []byte
		want string
	}{
		{"keys", keys, "ee76f6174abd37e283ef592042d04a4db0b4d217888838e76bfc5efcc2b43796"},
		{"texts", texts, "b6ba80abbc329f9dc8d3c8863d2a23855b514cb331dc1ede83b5042df6641c89"},
		{"both", both, "2a2dc7b68ca09f45f91cc17d43fe2641e07bce81dd68943a380b01c3346d9511"},
	} {
		if got := letters(sha.Sum(x.all)); got != x.want {
			t.Errorf("P3.1: %s of all lengths: %s and not %s", x.name, got, x.want)
		}
	}
}

// P3.1: any keys and any bytes, as the chapter says them.
func TestAnyKeys(t *testing.T) {
	r := rand.New(rand.NewSource(3))
	for range 300 {
		key, b := make([]byte, r.Intn(150)), make([]byte, r.Intn(1200))
		r.Read(key)
		r.Read(b)
		if got, want := tag.Of(key, b), plainOf(key, b); got != want {
			t.Errorf("P3.1: Of(%x, %x) = %x and not %x", key, b, got, want)
		}
	}
}

// P3.1: only a key of more than 64 bytes stands for its digest; a shorter one is filled with noughts, and so is that digest.
func TestKeyOfMoreThan64(t *testing.T) {
	b := []byte("bytes")
	for n := range 200 {
		key := pattern(n, 1)
		d := sha.Sum(key)
		if got, want := tag.Of(key, b) == tag.Of(d[:], b), n > 64; got != want {
			t.Errorf("P3.1: a key of %d bytes is one with its digest: %t", n, got)
		}
		if got, want := tag.Of(key, b) == tag.Of(append(key, 0), b), n < 64; got != want {
			t.Errorf("P3.1: a key of %d bytes is one with a nought more: %t", n, got)
		}
	}
}

// P3.1, R2: no key and no bytes are the same as empty ones.
func TestNothing(t *testing.T) {
	const want = "b613679a0814d9ec772f95d778c35fc5ff1697c493715653c6c712144292c5ad"
	for _, key := range [][]byte{nil, {}, {0}, make([]byte, 64)} {
		for _, b := range [][]byte{nil, {}} {
			if got := letters(tag.Of(key, b)); got != want {
				t.Errorf("P3.1: Of(%x, %x) = %s", key, b, got)
			}
		}
	}
	if tag.Of(nil, []byte("x")) != plainOf(nil, []byte("x")) || tag.Of([]byte("x"), nil) != plainOf([]byte("x"), nil) {
		t.Error("P3.1: no key, or no bytes")
	}
	if tag.Of([]byte("ab"), []byte("c")) == tag.Of([]byte("a"), []byte("bc")) || tag.Of([]byte("a"), []byte("b")) == tag.Of([]byte("b"), []byte("a")) {
		t.Error("P3.1: a key is not told from bytes")
	}
}

// P3.1: tags that are the same, and those that differ in one bit of one byte, from the first one to the last one.
func TestSame(t *testing.T) {
	full := [32]byte{}
	for i := range full {
		full[i] = 0xff
	}
	for _, a := range [][32]byte{{}, full, tag.Of([]byte("k"), []byte("b"))} {
		if b := a; !tag.Same(a, a) || !tag.Same(a, b) {
			t.Errorf("P3.1: Same(%x) is not", a)
		}
		for i := range a {
			for bit := range 8 {
				b := a
				b[i] ^= 1 << bit
				if tag.Same(a, b) || tag.Same(b, a) {
					t.Errorf("P3.1: Same, though byte %d differs in bit %d", i, bit)
				}
			}
		}
	}
	if tag.Same([32]byte{}, full) || tag.Same(full, [32]byte{}) {
		t.Error("P3.1: Same, though all bytes differ")
	}
}

// P3.1: tags that differ in two bytes, so that one difference might outweigh the other; and those of the same bytes in another order.
func TestSameTwoBytes(t *testing.T) {
	a := tag.Of([]byte("k"), []byte("b"))
	for i := range a {
		for j := range i {
			alike, turned := a, a
			alike[i] ^= 0x81
			alike[j] ^= 0x81
			turned[i]++
			turned[j]--
			if tag.Same(a, alike) || tag.Same(alike, a) || tag.Same(a, turned) || tag.Same(turned, a) {
				t.Errorf("P3.1: Same, though bytes %d and %d differ", j, i)
			}
			swapped := a
			swapped[i], swapped[j] = a[j], a[i]
			if tag.Same(a, swapped) != (a == swapped) {
				t.Errorf("P3.1: Same, with bytes %d and %d swapped: %t", j, i, tag.Same(a, swapped))
			}
		}
	}
}

// P3.2: the keys of all replicas and clients. They are those of another program.
func TestKeys(t *testing.T) {
	for _, x := range []struct {
		name string
		key  func(i int) []byte
		want []string
	}{
		{"Replica", tag.Replica, []string{
			"8dd57aad0e56398676b85385d02caa09e247a3f91aa90798cffff060c8e8cd9c",
			"4b2a32543fcd265e02510508cf6be527b9ef9cc9de600dbd719898617f923d7b",
			"a31c54cce99373daea8eb99fcfee059b3bba0babb4acd474db3c81d69e131263",
			"4745fcfc4cd7b976cd463beab51931b30470d9f8072a05638ccf214cdaad25ec",
			"9763265008567084b6d42982e7dbdf2db7e34f001b626631b540753f2f313b71",
			"59cc062cfbe9d9ebb2662435722fcb319dcbaeab56dc97f6c7e1f409ed937366",
			"7d1edc9689ba08507544c9a32f36cc14ca82cc5787ed0dc6a6a2c5b3042bc014",
			"a4332616cbfc8d10e4460cb67522466884377895cfa14f375c2c98acb7a35e6f",
			"808b0ca2aa05578f17843a06c5a8a82f2018f4d3272c1e16ac3a86119c0e428f",
			"8a86444ccc119fabb91e39285ce848918286fbedd3d3d0a08fb0a166b4d2d951",
			"132f736edd46e89a8fa77d3f0296d8bfcfa9f74a0f6e9687d758161a32061501",
		}},
		{"Client", tag.Client, []string{
			"7d8245ab8646899885a37da2394cc54db5812dfb370a1130be6350521dd51ec4",
			"42289815a0cf6a6438e0c043a5e32b202dd5f33fbf6ad18156de94444036290f",
			"4880bf3c564bd30f2f257bdbdced855793ef5e058374c621ebea25f36e7724d0",
			"907f7471941fba215a005f73998e2880dec77cf4847216128b234846bee28570",
			"76eac96aa4489864cb9c0ab25dad2fe496b48018bcfd9c34524a91a5e90da1ec",
			"4574edbf6248ad4bb1fdc6400c5b65425c25d27e8056c10a1f0556ac1efde4ab",
			"ba14cf6043a689fe666d4629a16e7da3c5813e1f271688917e9ac1b1b802a0d9",
			"41c973c27aba373a968fe45c1bef7e085bf0e9d5cd1ca97350a4f00a084c497d",
		}},
	} {
		for i, want := range x.want {
			if got := letters(x.key(i + 1)); got != want {
				t.Errorf("P3.2: %s(%d) = %s and not %s", x.name, i+1, got, want)
			}
		}
		if got := x.key(len(x.want) + 1); len(got) != 0 {
			t.Errorf("P3.2: %s(%d) = %x", x.name, len(x.want)+1, got)
		}
	}
}

// P3.2: a key is the digest of the text, as it stands, and of the number as a word.
func TestKeysAreDigests(t *testing.T) {
	for i := 1; i <= api.MaxReplicas; i++ {
		want := sha.Sum(octet.Word([]byte("ratchet replica"), uint64(i)))
		if got := tag.Replica(i); string(got) != string(want[:]) {
			t.Errorf("P3.2: Replica(%d) = %x and not %x", i, got, want)
		}
	}
	for i := 1; i <= api.MaxClients; i++ {
		want := sha.Sum(octet.Word([]byte("ratchet client"), uint64(i)))
		if got := tag.Client(i); string(got) != string(want[:]) {
			t.Errorf("P3.2: Client(%d) = %x and not %x", i, got, want)
		}
	}
}

// P3.2: the keys of all replicas and clients are unlike, and none has other than 32 bytes.
func TestKeysUnlike(t *testing.T) {
	whose := map[string]string{}
	meet := func(name string, key []byte) {
		if other := whose[string(key)]; other != "" {
			t.Errorf("P3.2: %s and %s have one key", name, other)
		}
		if len(key) != 32 {
			t.Errorf("P3.2: %s has a key of %d bytes", name, len(key))
		}
		whose[string(key)] = name
	}
	for i := 1; i <= api.MaxReplicas; i++ {
		meet(fmt.Sprint("replica ", i), tag.Replica(i))
	}
	for i := 1; i <= api.MaxClients; i++ {
		meet(fmt.Sprint("client ", i), tag.Client(i))
	}
}

// strangers: numbers that are those of no replica, nor of a client.
func strangers() []int {
	return []int{0, -1, -2, -api.MaxReplicas, api.MaxReplicas + 1, api.MaxReplicas + 2, 64, 255, 256, 257, 1<<16 + 1, 1<<32 + 1, -1<<32 + 1, math.MaxInt32, math.MinInt32, math.MaxInt, math.MinInt, math.MinInt + 1}
}

// P3.2: of other numbers there is no key; the limits are those of replicas and of clients, each its own.
func TestNoKeys(t *testing.T) {
	for _, i := range strangers() {
		if a, b := tag.Replica(i), tag.Client(i); len(a) != 0 || len(b) != 0 {
			t.Errorf("P3.2: of %d: %x, %x", i, a, b)
		}
	}
	for i := api.MaxClients + 1; i <= api.MaxReplicas; i++ {
		if a, b := tag.Replica(i), tag.Client(i); len(a) != 32 || len(b) != 0 {
			t.Errorf("P3.2: of %d: %x, %x", i, a, b)
		}
	}
}

// P3.2, R3, R5: a key is told in new memory each time.
func TestKeysAreNew(t *testing.T) {
	for name, key := range map[string]func(i int) []byte{"Replica": tag.Replica, "Client": tag.Client} {
		one, other := key(1), key(2)
		was, wasOther := string(one), string(other)
		two := key(1)
		clear(one)
		_ = append(one, "behind"...)
		if string(two) != was || string(other) != wasOther || string(key(1)) != was {
			t.Errorf("P3.2: %s shares memory", name)
		}
	}
}

// P3.3: the tag of a replica's number and bytes. The tags are those of another program.
func TestNumbered(t *testing.T) {
	for _, x := range []struct {
		i    int
		n    uint64
		b    []byte
		want string
	}{
		{1, 0, nil, "e2f421576964d799a392fdac91f4d0f45d8fe3d2f2bfa84417bda4812524e65c"},
		{1, 1, []byte{}, "2d9d258e79c0a957541120f30092b90363d38b736f11208d2bfa031b34bfa26b"},
		{1, 1, []byte("x"), "2406782c6053f233707c8415bb33f023fc36514ddbda622f349e76c744535b38"},
		{3, 258, []byte("abc"), "e87c23a98e5e0e54487a3a48dd657c4b4915abe3bacb2da337f9382a5acaa64f"},
		{11, math.MaxUint64, []byte("abc"), "fc507447197db31740bf6e515266418b45e8e81f615238d821cd697401ebbe2f"},
		{11, 1 << 63, pattern(100, 2), "44321078436a943256e72215e107713a43318cdb183038731abfad10efb8c589"},
		{2, api.MaxNumber, pattern(api.MaxBody, 2), "d0298f7f79a3be4f5c86643b03598aac144ec69a3e20ebae7163f2b0349bcb13"},
		{0, 7, []byte("abc"), "69a0947e58baa4984287888b60c24fbe0c02f2343e6b9dce2e3ddfa223d53114"},
		{12, 7, []byte("abc"), "69a0947e58baa4984287888b60c24fbe0c02f2343e6b9dce2e3ddfa223d53114"},
		{-1, 7, []byte("abc"), "69a0947e58baa4984287888b60c24fbe0c02f2343e6b9dce2e3ddfa223d53114"},
		{0, 0, nil, "f375180aba92888401f1919be4a8715a62763b65c1c10e1d0858e81d4d6f9fd2"},
	} {
		if got := letters(tag.Numbered(x.i, x.n, x.b)); got != x.want {
			t.Errorf("P3.3: Numbered(%d, %d, %d bytes) = %s and not %s", x.i, x.n, len(x.b), got, x.want)
		}
	}
}

// P3.3: it is the tag, by the replica's key, of the number as a word and of the bytes behind it; of no replica that by an empty key.
func TestNumberedIsOf(t *testing.T) {
	r := rand.New(rand.NewSource(4))
	whose := strangers()
	for i := 1; i <= api.MaxReplicas; i++ {
		whose = append(whose, i)
	}
	for _, i := range whose {
		key := tag.Replica(i)
		for _, n := range []uint64{0, 1, 255, 256, 1 << 32, 1 << 63, math.MaxUint64, r.Uint64()} {
			b := pattern(r.Intn(200), byte(i))
			if got, want := tag.Numbered(i, n, b), plainOf(key, append(octet.Word(nil, n), b...)); got != want {
				t.Errorf("P3.3: Numbered(%d, %d, %x) = %x and not %x", i, n, b, got, want)
			}
		}
	}
}

// P3.3: unlike replicas, numbers and bytes have unlike tags; and those of no replica have that of a single one.
func TestNumberedUnlike(t *testing.T) {
	met := map[[32]byte]bool{}
	all := 0
	for i := 0; i <= api.MaxReplicas; i++ {
		for _, n := range []uint64{0, 1, 2, 256, 1 << 56, math.MaxUint64} {
			for _, b := range []string{"", "\x00", "a", "aa", "\x00\x00\x00\x00\x00\x00\x00\x01"} {
				met[tag.Numbered(i, n, []byte(b))] = true
				all++
			}
		}
	}
	if len(met) != all {
		t.Errorf("P3.3: %d unlike tags of %d", len(met), all)
	}
	want := tag.Of(nil, octet.Word(nil, 9))
	for _, i := range strangers() {
		if tag.Numbered(i, 9, nil) != want {
			t.Errorf("P3.3: of %d, no replica, a tag by some key", i)
		}
	}
}

// R3, R5: neither a key, nor bytes, nor the room behind their ends are changed or kept; asked again the same is told.
func TestHandedIn(t *testing.T) {
	for _, n := range []int{0, 1, 8, 32, 63, 64, 65, 100} {
		key, b := pattern(n+200, 1), pattern(n+200, 2)
		one, two := tag.Of(key[:n], b[:n]), tag.Numbered(1, 5, b[:n])
		if string(key) != string(pattern(n+200, 1)) || string(b) != string(pattern(n+200, 2)) {
			t.Errorf("R3: of %d bytes, or behind them, something is another now", n)
		}
		if one != tag.Of(pattern(n, 1), pattern(n, 2)) || two != tag.Numbered(1, 5, pattern(n, 2)) {
			t.Errorf("P3.1: %d bytes with room behind them", n)
		}
		clear(key)
		clear(b)
		if one != tag.Of(pattern(n, 1), pattern(n, 2)) || two != tag.Numbered(1, 5, pattern(n, 2)) {
			t.Errorf("R5: %d bytes, asked again", n)
		}
	}
	same := pattern(300, 3)
	if tag.Of(same[:100], same[:100]) != plainOf(pattern(100, 3), pattern(100, 3)) || tag.Of(same[:64], same[32:]) != plainOf(pattern(300, 3)[:64], pattern(300, 3)[32:]) {
		t.Error("P3.1: a key and bytes in one memory")
	}
}

/- Plain mathematics of SHA-256: no Go in sight. -/
import Derived.Test.YtbejdfjioanjlaaDoorPlain
import Derived.Laws.BitsAllLaws
namespace Go.Proofs.YtbejdfjioanjlaaDoor

/-- The constants. -/
def KL : List Nat := [1116352408, 1899447441, 3049323471, 3921009573, 961987163, 1508970993, 2453635748, 2870763221, 3624381080, 310598401, 607225278, 1426881987, 1925078388, 2162078206, 2614888103, 3248222580, 3835390401, 4022224774, 264347078, 604807628, 770255983, 1249150122, 1555081692, 1996064986, 2554220882, 2821834349, 2952996808, 3210313671, 3336571891, 3584528711, 113926993, 338241895, 666307205, 773529912, 1294757372, 1396182291, 1695183700, 1986661051, 2177026350, 2456956037, 2730485921, 2820302411, 3259730800, 3345764771, 3516065817, 3600352804, 4094571909, 275423344, 430227734, 506948616, 659060556, 883997877, 958139571, 1322822218, 1537002063, 1747873779, 1955562222, 2024104815, 2227730452, 2361852424, 2428436474, 2756734187, 3204031479, 3329325298]
theorem KL_length : KL.length = 64 := rfl
theorem KL_lt (t : Nat) : KL.getD t 0 < 4294967296 := by
  by_cases h : t < 64
  · have : ∀ t : Fin 64, KL.getD t.1 0 < 4294967296 := by decide +kernel
    exact this ⟨t, h⟩
  · rw [List.getD_eq_getElem?_getD, List.getElem?_eq_none (by rw [KL_length]; omega)]
    decide

/-- Rotated to the right by n bits. -/
def ror (x n : Nat) : Nat := x / 2 ^ n ||| x * 2 ^ (32 - n) % 4294967296
/-- Addition of words. -/
def ad (a b : Nat) : Nat := (a + b) % 4294967296

theorem xor32 {a b : Nat} (ha : a < 4294967296) (hb : b < 4294967296) : a ^^^ b < 4294967296 := Nat.xor_lt_two_pow (n := 32) ha hb
theorem or32 {a b : Nat} (ha : a < 4294967296) (hb : b < 4294967296) : a ||| b < 4294967296 := Nat.or_lt_two_pow (n := 32) ha hb
theorem and32 {a b : Nat} (ha : a < 4294967296) : a &&& b < 4294967296 := Nat.lt_of_le_of_lt Nat.and_le_left ha
theorem ad_lt (a b : Nat) : ad a b < 4294967296 := Nat.mod_lt _ (by decide)
theorem ror_lt {x : Nat} (n : Nat) (h : x < 4294967296) : ror x n < 4294967296 := by
  unfold ror
  exact or32 (Nat.lt_of_le_of_lt (Nat.div_le_self _ _) h) (Nat.mod_lt _ (by decide))

/-- The four small functions of the rounds, and the two of the schedule. -/
def fe (e : Nat) : Nat := ror e 6 ^^^ ror e 11 ^^^ ror e 25
def fa (a : Nat) : Nat := ror a 2 ^^^ ror a 13 ^^^ ror a 22
def fch (e f g : Nat) : Nat := (e &&& f) ^^^ ((4294967295 ^^^ e) &&& g)
def fmj (a b c : Nat) : Nat := (a &&& b) ^^^ (a &&& c) ^^^ (b &&& c)
def g0 (x : Nat) : Nat := ror x 7 ^^^ ror x 18 ^^^ x / 8
def g1 (x : Nat) : Nat := ror x 17 ^^^ ror x 19 ^^^ x / 1024
theorem fe_lt {e : Nat} (h : e < 4294967296) : fe e < 4294967296 := xor32 (xor32 (ror_lt _ h) (ror_lt _ h)) (ror_lt _ h)
theorem fa_lt {e : Nat} (h : e < 4294967296) : fa e < 4294967296 := xor32 (xor32 (ror_lt _ h) (ror_lt _ h)) (ror_lt _ h)
theorem fch_lt {e f g : Nat} (h : e < 4294967296) : fch e f g < 4294967296 := xor32 (and32 h) (and32 (xor32 (by decide) h))
theorem fmj_lt {a b c : Nat} (h : a < 4294967296) (h2 : b < 4294967296) : fmj a b c < 4294967296 := xor32 (xor32 (and32 h) (and32 h)) (and32 h2)
theorem g0_lt {x : Nat} (h : x < 4294967296) : g0 x < 4294967296 := xor32 (xor32 (ror_lt _ h) (ror_lt _ h)) (by omega)
theorem g1_lt {x : Nat} (h : x < 4294967296) : g1 x < 4294967296 := xor32 (xor32 (ror_lt _ h) (ror_lt _ h)) (by omega)

/-- Eight words. -/
structure St where
  a : Nat
  b : Nat
  c : Nat
  d : Nat
  e : Nat
  f : Nat
  g : Nat
  h : Nat
def St.ok (S : St) : Prop := S.a < 4294967296 ∧ S.b < 4294967296 ∧ S.c < 4294967296 ∧ S.d < 4294967296 ∧ S.e < 4294967296 ∧ S.f < 4294967296 ∧ S.g < 4294967296 ∧ S.h < 4294967296
/-- A word by its place. -/
def St.get (S : St) : Nat → Nat
  | 0 => S.a | 1 => S.b | 2 => S.c | 3 => S.d | 4 => S.e | 5 => S.f | 6 => S.g | _ => S.h
theorem St.get_lt {S : St} (h : S.ok) : ∀ i, S.get i < 4294967296
  | 0 => h.1 | 1 => h.2.1 | 2 => h.2.2.1 | 3 => h.2.2.2.1 | 4 => h.2.2.2.2.1 | 5 => h.2.2.2.2.2.1 | 6 => h.2.2.2.2.2.2.1 | (_ + 7) => h.2.2.2.2.2.2.2
/-- The state at first. -/
def H0 : St := ⟨1779033703, 3144134277, 1013904242, 2773480762, 1359893119, 2600822924, 528734635, 1541459225⟩
theorem H0_ok : H0.ok := by unfold St.ok H0; decide
/-- The two sums of a round. -/
def rx (S : St) (k w : Nat) : Nat := ad (ad (ad (ad S.h (fe S.e)) (fch S.e S.f S.g)) k) w
def ry (S : St) : Nat := ad (fa S.a) (fmj S.a S.b S.c)
def rnd (S : St) (k w : Nat) : St := ⟨ad (rx S k w) (ry S), S.a, S.b, S.c, ad S.d (rx S k w), S.e, S.f, S.g⟩
theorem rnd_ok {S : St} (h : S.ok) (k w : Nat) : (rnd S k w).ok := ⟨ad_lt _ _, h.1, h.2.1, h.2.2.1, ad_lt _ _, h.2.2.2.2.1, h.2.2.2.2.2.1, h.2.2.2.2.2.2.1⟩
/-- The first t rounds. -/
def run (W : List Nat) (S : St) : Nat → St
  | 0 => S
  | t + 1 => rnd (run W S t) (KL.getD t 0) (W.getD t 0)
theorem run_ok (W : List Nat) {S : St} (h : S.ok) : ∀ t, (run W S t).ok
  | 0 => h
  | t + 1 => rnd_ok (run_ok W h t) _ _
def St.plus (S T : St) : St := ⟨ad S.a T.a, ad S.b T.b, ad S.c T.c, ad S.d T.d, ad S.e T.e, ad S.f T.f, ad S.g T.g, ad S.h T.h⟩
theorem plus_ok (S T : St) : (S.plus T).ok := ⟨ad_lt _ _, ad_lt _ _, ad_lt _ _, ad_lt _ _, ad_lt _ _, ad_lt _ _, ad_lt _ _, ad_lt _ _⟩

/-- Four bytes as a word. -/
def be4 (a b c d : Nat) : Nat := a * 16777216 ||| b * 65536 ||| c * 256 ||| d
theorem be4_lt {a b c d : Nat} (ha : a < 256) (hb : b < 256) (hc : c < 256) (hd : d < 256) : be4 a b c d < 4294967296 :=
  or32 (or32 (or32 (by omega) (by omega)) (by omega)) (by omega)
/-- Word t of a block. -/
def wd (L : List UInt8) (t : Nat) : Nat := be4 (L.getD (4 * t) 0).toNat (L.getD (4 * t + 1) 0).toNat (L.getD (4 * t + 2) 0).toNat (L.getD (4 * t + 3) 0).toNat
theorem wd_lt (L : List UInt8) (t : Nat) : wd L t < 4294967296 := be4_lt (u8_lt _) (u8_lt _) (u8_lt _) (u8_lt _)
/-- The first t words of a block. -/
def wds (L : List UInt8) (t : Nat) : List Nat := (List.range t).map (wd L)
theorem wds_length (L : List UInt8) (t : Nat) : (wds L t).length = t := by simp [wds]
theorem wds_succ (L : List UInt8) (t : Nat) : wds L (t + 1) = wds L t ++ [wd L t] := by simp [wds, List.range_succ]
/-- The word that follows. -/
def nxt (W : List Nat) : Nat := ad (ad (ad (W.getD (W.length - 16) 0) (g0 (W.getD (W.length - 15) 0))) (W.getD (W.length - 7) 0)) (g1 (W.getD (W.length - 2) 0))
theorem nxt_lt (W : List Nat) : nxt W < 4294967296 := ad_lt _ _
/-- n words more. -/
def ext (W : List Nat) : Nat → List Nat
  | 0 => W
  | n + 1 => ext W n ++ [nxt (ext W n)]
theorem ext_length (W : List Nat) : ∀ n, (ext W n).length = W.length + n
  | 0 => rfl
  | n + 1 => by rw [ext, List.length_append, ext_length W n]; simp; omega
/-- The 64 words of a block. -/
def sched (L : List UInt8) : List Nat := ext (wds L 16) 48
theorem sched_length (L : List UInt8) : (sched L).length = 64 := by unfold sched; rw [ext_length, wds_length]
theorem getD_lt {W : List Nat} (h : ∀ x ∈ W, x < 4294967296) (t : Nat) : W.getD t 0 < 4294967296 := by
  rw [List.getD_eq_getElem?_getD]
  by_cases c : t < W.length
  · rw [List.getElem?_eq_getElem c]; exact h _ (List.getElem_mem c)
  · rw [List.getElem?_eq_none (by omega)]; decide
theorem ext_lt {W : List Nat} (h : ∀ x ∈ W, x < 4294967296) : ∀ n, ∀ x ∈ ext W n, x < 4294967296
  | 0 => h
  | n + 1 => fun x hx => by
    rw [ext, List.mem_append] at hx
    rcases hx with hx | hx
    · exact ext_lt h n x hx
    · rw [List.mem_singleton] at hx; rw [hx]; exact nxt_lt _
theorem wds_lt (L : List UInt8) (t : Nat) : ∀ x ∈ wds L t, x < 4294967296 := fun x hx => by
  unfold wds at hx
  obtain ⟨a, _, rfl⟩ := List.mem_map.1 hx
  exact wd_lt _ _
theorem sched_lt (L : List UInt8) (t : Nat) : (sched L).getD t 0 < 4294967296 := getD_lt (ext_lt (wds_lt L 16) 48) t
theorem getD_snoc_lt {W : List Nat} {v x : Nat} (h : x < W.length) : (W ++ [v]).getD x 0 = W.getD x 0 := by
  rw [List.getD_eq_getElem?_getD, List.getD_eq_getElem?_getD, List.getElem?_append_left h]
theorem getD_snoc_at (W : List Nat) (v : Nat) : (W ++ [v]).getD W.length 0 = v := by
  rw [List.getD_eq_getElem?_getD, List.getElem?_append_right (Nat.le_refl _)]; simp
theorem getD_past {W : List Nat} {x : Nat} (h : W.length ≤ x) : W.getD x 0 = 0 := by
  rw [List.getD_eq_getElem?_getD, List.getElem?_eq_none h]; rfl

/-- What a block makes of the state. -/
def comp (S : St) (L : List UInt8) : St := S.plus (run (sched L) S 64)
theorem comp_ok (S : St) (L : List UInt8) : (comp S L).ok := plus_ok _ _
/-- n blocks, in order. -/
def blks (S : St) (L : List UInt8) : Nat → St
  | 0 => S
  | n + 1 => comp (blks S L n) (L.drop (64 * n))
theorem blks_ok {S : St} (h : S.ok) (L : List UInt8) : ∀ n, (blks S L n).ok
  | 0 => h
  | _ + 1 => comp_ok _ _
theorem getD_congr {L M : List UInt8} (h : ∀ i, i < 64 → L.getD i 0 = M.getD i 0) : wds L 16 = wds M 16 := by
  unfold wds
  apply List.map_congr_left
  intro t ht
  have := List.mem_range.1 ht
  unfold wd
  rw [h _ (by omega), h _ (by omega), h _ (by omega), h _ (by omega)]
theorem comp_congr {S : St} {L M : List UInt8} (h : ∀ i, i < 64 → L.getD i 0 = M.getD i 0) : comp S L = comp S M := by
  unfold comp sched
  rw [getD_congr h]
theorem getD_drop' (L : List UInt8) (n i : Nat) : (L.drop n).getD i 0 = L.getD (n + i) 0 := by
  rw [List.getD_eq_getElem?_getD, List.getD_eq_getElem?_getD, List.getElem?_drop]
theorem getD_app (L R : List UInt8) {i : Nat} (h : i < L.length) : (L ++ R).getD i 0 = L.getD i 0 := by
  rw [List.getD_eq_getElem?_getD, List.getD_eq_getElem?_getD, List.getElem?_append_left h]
theorem comp_take (S : St) (L : List UInt8) : comp S (L.take 64) = comp S L := comp_congr fun i hi => by
  rw [List.getD_eq_getElem?_getD, List.getD_eq_getElem?_getD, List.getElem?_take_of_lt hi]
theorem blks_append (S : St) (L R : List UInt8) : ∀ n, 64 * n ≤ L.length → blks S (L ++ R) n = blks S L n
  | 0, _ => rfl
  | n + 1, h => by
    rw [blks, blks, blks_append S L R n (by omega)]
    exact comp_congr fun i hi => by rw [getD_drop', getD_drop', getD_app _ _ (by omega)]
theorem blks_add (S : St) (L : List UInt8) (n : Nat) : ∀ m, blks S L (n + m) = blks (blks S L n) (L.drop (64 * n)) m
  | 0 => rfl
  | m + 1 => by
    rw [← Nat.add_assoc, blks, blks, blks_add S L n m, List.drop_drop]
    rw [show 64 * (n + m) = 64 * n + 64 * m by omega]

/-- The state after the whole blocks of L, and what is left of L. -/
def stOf (L : List UInt8) : St := blks H0 L (L.length / 64)
def rest (L : List UInt8) : List UInt8 := L.drop (64 * (L.length / 64))
theorem stOf_ok (L : List UInt8) : (stOf L).ok := blks_ok H0_ok _ _
theorem rest_length (L : List UInt8) : (rest L).length = L.length % 64 := by
  unfold rest; rw [List.length_drop]; omega
theorem stOf_nil : stOf [] = H0 := rfl

/-- A piece that begins at a block's beginning. -/
theorem stOf_app_whole {L R : List UInt8} (h : L.length % 64 = 0) : stOf (L ++ R) = blks (stOf L) R (R.length / 64) := by
  have e : (L ++ R).length / 64 = L.length / 64 + R.length / 64 := by rw [List.length_append]; omega
  unfold stOf
  rw [e, blks_add, blks_append _ _ _ _ (by omega)]
  congr 1
  rw [show 64 * (L.length / 64) = L.length by omega]
  simp
theorem rest_app_whole {L R : List UInt8} (h : L.length % 64 = 0) : rest (L ++ R) = rest R := by
  unfold rest
  have e : 64 * ((L ++ R).length / 64) = L.length + 64 * (R.length / 64) := by rw [List.length_append]; omega
  rw [e, ← List.drop_drop]
  simp
/-- A piece that does not fill the block. -/
theorem stOf_app_short {L R : List UInt8} (h : L.length % 64 + R.length < 64) : stOf (L ++ R) = stOf L := by
  have e : (L ++ R).length / 64 = L.length / 64 := by rw [List.length_append]; omega
  unfold stOf
  rw [e, blks_append _ _ _ _ (by omega)]
theorem rest_app_short {L R : List UInt8} (h : L.length % 64 + R.length < 64) : rest (L ++ R) = rest L ++ R := by
  have e : (L ++ R).length / 64 = L.length / 64 := by rw [List.length_append]; omega
  unfold rest
  rw [e, List.drop_append_of_le_length (by omega)]
/-- A piece that fills the block exactly. -/
theorem stOf_app_fill {L R : List UInt8} (h : L.length % 64 + R.length = 64) : stOf (L ++ R) = comp (stOf L) (rest L ++ R) := by
  have e : (L ++ R).length / 64 = L.length / 64 + 1 := by rw [List.length_append]; omega
  unfold stOf rest
  rw [e, blks, blks_append _ _ _ _ (by omega), List.drop_append_of_le_length (by omega)]

/-- What follows n bytes in the padded message. -/
def beL8 (n : Nat) : List UInt8 := (leL 8 n).reverse
def padL (n : Nat) : List UInt8 := 128 :: (List.replicate ((119 - n % 64) % 64) 0 ++ beL8 (8 * n))
theorem padL_length (n : Nat) : (padL n).length = 9 + (119 - n % 64) % 64 := by
  unfold padL beL8
  simp [leL_length]; omega
theorem padL_whole (n : Nat) : (n + (padL n).length) % 64 = 0 := by rw [padL_length]; omega
def outB (S : St) : List UInt8 := (List.range 8).flatMap fun i => [UInt8.ofNat (S.get i / 16777216), UInt8.ofNat (S.get i / 65536), UInt8.ofNat (S.get i / 256), UInt8.ofNat (S.get i)]
/-- The hash of a string. -/
def sha (L : List UInt8) : List UInt8 := outB (stOf (L ++ padL L.length))
theorem outB_length (S : St) : (outB S).length = 32 := rfl
theorem sha_length (L : List UInt8) : (sha L).length = 32 := rfl
/-- A digit, a string in digits. -/
def dgt (n : Nat) : UInt8 := [48, 49, 50, 51, 52, 53, 54, 55, 56, 57, 97, 98, 99, 100, 101, 102].getD n 0
def dgs (L : List UInt8) : List UInt8 := L.flatMap fun c => [dgt (c.toNat / 16), dgt (c.toNat % 16)]
theorem dgs_length (L : List UInt8) : (dgs L).length = 2 * L.length := by
  unfold dgs
  induction L with
  | nil => rfl
  | cons c L ih => rw [List.flatMap_cons, List.length_append, ih]; simp; omega
theorem dgs_snoc (L : List UInt8) (c : UInt8) : dgs (L ++ [c]) = dgs L ++ [dgt (c.toNat / 16), dgt (c.toNat % 16)] := by
  unfold dgs
  simp
def hexL (L : List UInt8) : List UInt8 := dgs (sha L)
theorem hexL_length (L : List UInt8) : (hexL L).length = 64 := by unfold hexL; rw [dgs_length, sha_length]
theorem abc_hex : hexL [97, 98, 99] = [98, 97, 55, 56, 49, 54, 98, 102, 56, 102, 48, 49, 99, 102, 101, 97, 52, 49, 52, 49, 52, 48, 100, 101, 53, 100, 97, 101, 50, 50, 50, 51, 98, 48, 48, 51, 54, 49, 97, 51, 57, 54, 49, 55, 55, 97, 57, 99, 98, 52, 49, 48, 102, 102, 54, 49, 102, 50, 48, 48, 49, 53, 97, 100] := by decide +kernel
end Go.Proofs.YtbejdfjioanjlaaDoor

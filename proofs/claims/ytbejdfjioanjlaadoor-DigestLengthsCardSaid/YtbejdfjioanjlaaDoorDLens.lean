/- DigestLengths holds: for every number and every byte the law about the hash of equal bytes returns true and leaves memory as it was; the table of constants is tied to the program's text. No other condition. -/
import Derived.Test.YtbejdfjioanjlaaDoorAwk03
import Derived.Test.YtbejdfjioanjlaaDoorTied03
import Derived.Test.YtbejdfjioanjlaaDoorCards
import Derived.Deep.AppendLies
namespace Go.Proofs.YtbejdfjioanjlaaDoor.digestLengths
open Go.ChangeShapes Go.WideShapes Go.ChangeAt Go.RowKit
open Go.ChangeMaps (open_string shut_string)
set_option linter.unusedVariables false

theorem own : ownKnob Tryd.prog.godebug = none := by kernel_rfl
theorem laidOut : laidOutB Tryd.prog = true := by kernel_rfl

theorem own_only {w w' : World} {base : Nat} {e : TypeId} {size : Nat} {v : Value} {n : Nat} {xs : List Value} {g : Nat} (h : w.ownsRow base e size v n xs) (hg : w.grownBy w' (some g)) (hb : g < base) : w'.ownsRow base e size v n xs := by
  refine ⟨h.1, h.2.imp id ?_⟩
  rintro ⟨gg, cap, cur, hv, hbg, hh, hrest⟩
  refine ⟨gg, cap, cur, hv, hbg, (hg.block gg (Array.getElem?_eq_some_iff.1 hh).1 (by intro e; injection e with e; omega)).trans hh, hrest⟩
theorem conv_bs {w : World} {base : Nat} {A : Option Addr} {cap m : Nat} {l : List UInt8} (h : BS w base (.slice A m cap) l) (hl : l.length = m) :
    (convert 27 9 (.slice A m cap)).run Tryd.prog w = .ok (.string (str l)) w := by
  subst hl
  exact bs_string h
theorem bs_own {w : World} {base : Nat} {A : Option Addr} {cap m : Nat} {l : List UInt8} (h : w.ownsRow base 5 1 (.slice A m cap) m (cellsOf l)) (hl : l.length = m) : BS w base (.slice A m cap) l := by
  subst hl
  exact bs_of_own h
theorem conv_one (b : UInt8) (V : World) : (convert 27 9 (.slice (some ⟨V.heap.size, 0, none⟩) 1 1)).run Tryd.prog (V.alloc (.cells #[.int .u8 (b.toNat : Int)] 5)) = .ok (.string (str [b])) (V.alloc (.cells #[.int .u8 (b.toNat : Int)] 5)) := by
  refine conv_bs (base := 0) ⟨_, 1, rfl, Nat.le_refl _, fun _ => ⟨V.heap.size, 0, rfl, Nat.zero_le _, by simp, fun j hj => ?_⟩⟩ rfl
  have hj0 : j = 0 := by simp at hj; exact hj
  subst hj0
  refine ⟨by rw [Nat.zero_add, World.cell?_alloc_at _ _ _ _ rfl]; rfl, ?_⟩
  rw [Nat.zero_add]
  exact World.frozen?_alloc_new V _ _ _

theorem big (n : Int) (c : Int) (w : World) (hk : TiedW w) (h1 : -9223372036854775808 ≤ n) (h2 : n ≤ 9223372036854775807) (h : n < 0 ∨ 300 < n) :
    Calls Tryd.prog 4 #[.int .i64 n, .int .u8 c] w fun e w' => e = .returned (.bool true) ∧ Below w.heap.size w w' := by
  have HK := Lib.hid hk
  clear hk
  rcases h with h | h
  · go_enter Tryd.func4, Tryd.ntmps4
    go_wp2_with fail
    refine (newh_any _).mono ?_
    rintro e w1 ⟨rfl, hob, hb1⟩
    have HK1 := Lib.hid (HK.out.kept hb1)
    have HB1 := Lib.hid hb1
    clear hob hb1
    go_wp2_with fail
    refine (lives_any _ HK1.out).mono ?_
    rintro e w9 ⟨rfl, hb9⟩
    go_wp2_with fail
    go_ret
    exact ⟨rfl, HB1.out.trans (hb9.mono HB1.out.size)⟩
  · have hd : decide (n < 0) = false := by simp; omega
    go_enter Tryd.func4, Tryd.ntmps4
    go_wp2_with fail
    refine (newh_any _).mono ?_
    rintro e w1 ⟨rfl, hob, hb1⟩
    have HK1 := Lib.hid (HK.out.kept hb1)
    have HB1 := Lib.hid hb1
    clear hob hb1
    go_wp2_with fail
    refine (lives_any _ HK1.out).mono ?_
    rintro e w9 ⟨rfl, hb9⟩
    go_wp2_with fail
    go_ret
    exact ⟨rfl, HB1.out.trans (hb9.mono HB1.out.size)⟩

set_option maxHeartbeats 1000000 in
set_option maxRecDepth 20000 in
theorem core (m : Nat) (b8 : UInt8) (w : World) (hk : TiedW w) (hm : m ≤ 300) :
    Calls Tryd.prog 4 #[.int .i64 m, .int .u8 (b8.toNat : Int)] w fun e w' => e = .returned (.bool true) ∧ Below w.heap.size w w' := by
  have hkl := hk.lt
  obtain ⟨i0, hi, hz0, hz1, hz2⟩ := info_parts info5
  have hll := fun k => List.length_replicate (n := k) (a := b8)
  have hwr := fun k W (a : Kt W) (b : Ob W w.heap.size (List.replicate k b8)) (c : k ≤ 300) => write_any w.heap.size (List.replicate k b8) (str [b8]) W a (by omega) b (by rw [hll]; omega) (by simp [str_size])
  have hsn : ∀ k, List.replicate k b8 ++ (str [b8]).data.toList = List.replicate (k + 1) b8 := fun k => by rw [str_toList, List.replicate_succ']
  simp only [hsn] at hwr
  have hle := fun W (b : Ob W w.heap.size (List.replicate m b8)) => len_any w.heap.size (List.replicate m b8) W b
  rw [hll m] at hle
  have hhx := fun W (a : Kt W) (b : Ob W w.heap.size (List.replicate m b8)) => hexm_any w.heap.size (List.replicate m b8) W a b (by rw [hll]; omega)
  have hph := fun W (a : Kt W) => phex_any (str (List.replicate m b8)) W a (by rw [str_size, hll]; omega)
  have hrh := fun W => rhex_any (str (List.replicate m b8)) W (by rw [str_size, hll]; omega)
  rw [str_toList] at hph hrh
  have hone := conv_one b8
  have hcs : ∀ k, cellsOf (List.replicate k b8) ++ [.int .u8 (b8.toNat : Int)] = cellsOf (List.replicate (k + 1) b8) := fun k => by rw [cellsOf_snoc, List.replicate_succ']
  have HWR := Lib.hid hwr
  have HLE := Lib.hid hle
  have HHX := Lib.hid hhx
  have HPH := Lib.hid hph
  have HRH := Lib.hid hrh
  have HCS := Lib.hid hcs
  have HLL := Lib.hid hll
  have HK := Lib.hid hk
  clear hwr hle hhx hph hrh hcs hk hll hsn
  generalize hR : (fun k : Nat => List.replicate k b8) = R at *
  have hRk : ∀ k, List.replicate k b8 = R k := fun k => by rw [← hR]
  simp only [hRk] at HWR HLE HHX HPH HRH HCS HLL
  have HR0 : Hid (R 0 = []) := by rw [← hR]; rfl
  have hS1 : str [b8] = str [b8] := rfl
  generalize str [b8] = s1 at *
  generalize str (hexL (R m)) = hx at *
  clear hR hRk hS1
  have hd0 : decide ((m : Int) < 0) = false := by simp
  have hd3 : decide ((300 : Int) < (m : Int)) = false := by simp; omega
  go_enter Tryd.func4, Tryd.ntmps4
  go_wp2_with fail
  refine (newh_any _).mono ?_
  rintro e w1 ⟨rfl, hob, hb1⟩
  have HK1 := Lib.hid (HK.out.kept hb1)
  have HB1 := Lib.hid hb1
  have hg1 : w.heap.size < w1.heap.size := hob.lt
  have HO1 := Lib.hid hob
  clear hob hb1
  go_wp2_with fail
  go_loopw [6, 7] (fun b i wr => ∃ k : Nat, ∃ A cap, k ≤ m ∧ i = .int .i64 k ∧ b = .slice A k cap ∧ Hid (wr.ownsRow w1.heap.size 5 1 (.slice A k cap) k (cellsOf (R k))) ∧ Hid (Ob wr w.heap.size (R k)) ∧ Hid (Kt wr) ∧ Hid (Below w.heap.size w wr) ∧ w1.heap.size ≤ wr.heap.size) (fun _ i _ => m - (intOf i).toNat)
  case atStart => exact ⟨0, none, 0, by omega, rfl, rfl, by rw [HR0.out]; exact World.ownsRow_nil .., by rw [HR0.out]; exact HO1.out, HK1, HB1, Nat.le_refl _⟩
  case round =>
    clear HO1 HK1 HB1
    obtain ⟨k, A, cap, hkm, rfl, rfl, HOW, HOB, HKR, HBR, hbase⟩ := hrel
    by_cases hlt : k < m
    · have hgr : w.heap.size < wr.heap.size := by omega
      have hown := HOW.out
      go_wp2_with (at_builtin; refine wpList_append_lies _ rfl _ _ 27 rfl w1.heap.size 5 i0 (.int .u8 0) 1 1 Tryd.underlying27 hi hz0 hz1 hz2 rfl (by omega) _ k (cellsOf (R k)) rfl (hown.alloc _) ⟨wr.heap.size, 0, none⟩ 1 1 [.int .u8 (b8.toNat : Int)] rfl rfl ?c1 ?c2 (by omega) ?c3 ?c4 ?c5 _ rfl ?_)
      case c1 => exact World.news_of_block (cs := #[.int .u8 (b8.toNat : Int)]) (t := 5) (fr := (0, 0)) (heap_alloc_new wr _)
      case c2 => simp [Value.oneCell']
      case c3 => unfold maxLen; omega
      case c4 => omega
      case c5 => simp; omega
      intro g2 cap2 w2 hown2 hgrow hat hlt2
      rw [HCS.out] at hown2
      have hb2 : Below w1.heap.size wr w2 := ((Below.refl w1.heap.size wr).alloc hbase _).grown hgrow (by simp; omega) (fun j hj => (hown.lt j hj).1)
      have HOB2 := Lib.hid (HOB.out.of_block (hb2.block _ hg1))
      have HK2 := Lib.hid (HKR.out.of_block (hb2.block _ (by omega)))
      have HB2 := Lib.hid (HBR.out.trans (hb2.mono (by omega)))
      have HOW2 := Lib.hid (hown2.alloc (.cells #[.int .u8 (b8.toNat : Int)] 5))
      have hs2 : w1.heap.size ≤ w2.heap.size := Nat.le_trans hbase hb2.size
      have hal := (Below.refl w2.heap.size w2).alloc (Nat.le_refl _) (.cells #[.int .u8 (b8.toNat : Int)] 5)
      have HOB3 := Lib.hid (HOB2.out.kept hal)
      have HK3 := Lib.hid (HK2.out.kept hal)
      have HB3 := Lib.hid (HB2.out.trans (hal.mono HB2.out.size))
      have hs3 : w1.heap.size ≤ (w2.alloc (.cells #[.int .u8 (b8.toNat : Int)] 5)).heap.size := Nat.le_trans hs2 hal.size
      clear hown hown2 hgrow hat hb2 HOB HKR HBR HOW HOB2 HK2 HB2 hal hlt2 hgr
      go_wp2_with fail
      generalize w2.alloc (.cells #[.int .u8 (b8.toNat : Int)] 5) = w3 at *
      refine (HWR.out k _ HK3.out HOB3.out (by omega)).mono ?_
      rintro e w4 ⟨rfl, hob, hg⟩
      have HK4 := Lib.hid (HK3.out.only hg (by omega))
      have HB4 := Lib.hid (below_but HB3.out hg (Nat.le_refl _) HB3.out.size)
      have HOW4 := Lib.hid (own_only HOW2.out hg hg1)
      have HOB4 := Lib.hid hob
      have hs4 : w1.heap.size ≤ w4.heap.size := Nat.le_trans hs3 hg.size
      clear hob hg
      go_wp2_with fail
      go_roundw
      case rel => exact ⟨k + 1, some ⟨g2, 0, none⟩, cap2, by omega, by go_num, rfl, HOW4, HOB4, HK4, HB4, hs4⟩
      case measure => simp [intOf]; omega
    · obtain rfl : k = m := by omega
      have HBS := Lib.hid (bs_own HOW.out (HLL.out k))
      have hcv := conv_bs HBS.out (HLL.out k)
      have hdk : decide ((k : Int) < (k : Int)) = false := by simp
      clear HOW
      go_wp2_with fail
      clear hcv
      refine (HRH.out _).mono ?_
      rintro e w5 ⟨rfl, hb⟩
      have HK5 := Lib.hid (HKR.out.kept hb)
      have HB5 := Lib.hid (HBR.out.trans (hb.mono HBR.out.size))
      have HBS5 := Lib.hid (HBS.out.kept hb)
      have HO5 := Lib.hid (HOB.out.kept hb)
      clear hb
      have hcv := conv_bs HBS5.out (HLL.out k)
      go_wp2_with fail
      refine (HPH.out _ HK5.out).mono ?_
      rintro e w6 ⟨rfl, hb⟩
      have HK6 := Lib.hid (HK5.out.kept hb)
      have HB6 := Lib.hid (HB5.out.trans (hb.mono HB5.out.size))
      have HO6 := Lib.hid (HO5.out.kept hb)
      clear hb
      go_wp2_with fail
      refine (HHX.out _ HK6.out HO6.out).mono ?_
      rintro e w7 ⟨rfl, hb⟩
      have HK7 := Lib.hid (HK6.out.kept hb)
      have HB7 := Lib.hid (HB6.out.trans (hb.mono HB6.out.size))
      have HO7 := Lib.hid (HO6.out.kept hb)
      clear hb
      go_wp2_with fail
      refine (HLE.out _ HO7.out).mono ?_
      rintro e w8 ⟨rfl, rfl⟩
      go_wp2_with fail
      refine (lives_any _ HK7.out).mono ?_
      rintro e w9 ⟨rfl, hb9⟩
      go_wp2_with fail
      go_ret
      exact ⟨rfl, HB7.out.trans (hb9.mono HB7.out.size)⟩

theorem walk (n c : Int) (w : World) (hk : TiedW w) (wn : (Lit.int .i64 n).wf = true) (wc : (Lit.int .u8 c).wf = true) :
    Calls Tryd.prog 4 #[.int .i64 n, .int .u8 c] w fun e w' => e = .returned (.bool true) ∧ Below w.heap.size w w' := by
  have hn : -9223372036854775808 ≤ n ∧ n ≤ 9223372036854775807 := by
    have h' : IntKind.i64.min ≤ n ∧ n ≤ IntKind.i64.max := by simpa [Lit.wf] using wn
    exact ⟨Int.le_trans (by decide) h'.1, Int.le_trans h'.2 (by decide)⟩
  have hc : 0 ≤ c ∧ c < 256 := by
    have h' : IntKind.u8.min ≤ c ∧ c ≤ IntKind.u8.max := by simpa [Lit.wf] using wc
    exact ⟨Int.le_trans (by decide) h'.1, Int.lt_of_le_of_lt h'.2 (by decide)⟩
  by_cases h : n < 0 ∨ 300 < n
  · exact big n c w hk hn.1 hn.2 h
  · obtain ⟨m, rfl⟩ := Int.eq_ofNat_of_zero_le (show 0 ≤ n by omega)
    obtain ⟨b, rfl⟩ : ∃ b : UInt8, c = (b.toNat : Int) := ⟨UInt8.ofNat c.toNat, by rw [UInt8.toNat_ofNat']; omega⟩
    exact core m b w hk (by omega)

set_option maxRecDepth 100000 in
theorem lifted (os : Os) (started : os.Started) (H : Type) (enc : TypeId × Value → H) :
    ReturnsInHanded {} Tryd.checked os 4 .any (fun w args => (Rows.digestLengthsSpec.pre enc Tryd.prog Tryd.f4 [] false w args ∧ laidMetH Tryd.prog laidL w) ∧ sizedMet enc Tryd.prog Tryd.f4 (OpenSpec.ofChange Rows.digestLengthsSpec) false w args) (Rows.digestLengthsSpec.post enc Tryd.prog Tryd.f4 false true false false) := by
  refine returnsInHanded_of_change_and (C := Tryd.checked) (X := fun w _ => laidMetH Tryd.prog laidL w) (fun _ _ _ hh h => h.of_heap hh) own started (by kernel_rfl) Tryd.func4
    (ChangeSpec.witness_shaped (enc := enc) (C := Tryd.checked) (os := os) (X := fun w _ => laidMetH Tryd.prog laidL w) false (World.doorLaid Tryd.prog 400 os) #[.int .i64 0, .int .u8 0] 8 rfl (World.shaped_of_RefB (by kernel_rfl) (by kernel_rfl)) (by kernel_rfl) (by kernel_rfl) (by kernel_rfl) (door_met os _)) ?_
  intro W base args ds gs before hval0 hW _ _ hL _
  have hval : ∀ (j : Nat) t v, Tryd.f4.params[j]? = some t → args[j]? = some v → Value.okWide Tryd.prog W .any base t v := hval0
  have hW' := hW
  obtain ⟨p, q, hA0, hV, rfl, hfz, hnd⟩ := hW
  have hA : DataW.TrodAll enc Tryd.prog W 0 (fun _ => true) true Tryd.f4.params.toList args.toList ds p := hA0
  rw [Tryd.params4] at hA hval
  obtain ⟨v0, vs0, d0, ds0, p0, q0, hargs, rfl, rfl, h0, r0⟩ := trodAll_cons hA
  obtain ⟨v1, vs1, d1, ds1, p1, q1, rfl, rfl, rfl, h1, r1⟩ := trodAll_cons r0
  obtain ⟨rfl, rfl, rfl⟩ := trodAll_nil r1
  obtain rfl : args = #[v0, v1] := by cases args; simp_all
  obtain ⟨rfl, rfl⟩ := trodVars_none hV
  obtain ⟨a0, rfl, rfl, rfl, w0⟩ := open_int Tryd.underlying3 (hval 0 3 v0 rfl rfl) h0
  obtain ⟨a1, rfl, rfl, rfl, w1⟩ := open_int Tryd.underlying5 (hval 1 5 v1 rfl rfl) h1
  clear hA0 hval0
  refine (walk a0 a1 W (tied_of_laid hL) w0 w1).mono fun e W' ⟨he, bel⟩ => ?_
  subst he
  exact ⟨_, rfl, _, _, _, [], _, [], hW', trodAll_mk1 (shut_bool Tryd.underlying4 _), (trodAll_cons_mk (shut_int Tryd.underlying3 w0) (trodAll_cons_mk (shut_int Tryd.underlying5 w1) trodAll_mk0)), rfl, bel.frame _, fun h => by cases h⟩

theorem over : Rows.digestLengthsRow.holds Tryd.pinned (OpenSpec.ofChange Rows.digestLengthsSpec) :=
  OpenClaim.holds_of_wide 4 Tryd.f4 rfl rfl rfl rfl rfl rfl rfl ⟨rfl, rfl, rfl, rfl, rfl⟩ rfl rfl rfl rfl rfl (by kernel_rfl) Tryd.func4 (by kernel_rfl)
    (of_decide_eq_true (by kernel_rfl)) (by unfold Func.isWrapper; first | (rw [if_pos (by decide +kernel)]; kernel_rfl) | (rw [if_neg (by decide +kernel)]; exact ⟨rfl, rfl⟩))
    (fun os started H enc _ => lifted os started H enc)

theorem bare : Rows.DigestLengthsSaid := over

/-- The tied card. -/
theorem proved : Rows.DigestLengthsCardSaid :=
  Claim7.holds_tied_plain_at .later [] _ true _ false
    bare (fun _ h => by cases h) (by kernel_rfl) (fun _ h => by cases h) digestLengths_row_tie rfl ⟨rfl, rfl⟩ (by kernel_rfl) rfl
    (fun f fn hf hfn => by
      obtain rfl : f = 4 := Option.some.inj ((show Tryd.prog.funcNamed "intrusion/intrusionlaw03.DigestLengths" = some 4 by kernel_rfl).symm.trans hf) |>.symm
      obtain rfl : fn = Tryd.f4 := (Option.some.inj (Tryd.func4.symm.trans hfn)).symm
      exact ⟨by kernel_rfl, fun j t ht => by
        rw [Tryd.params4] at ht
        have hm : t ∈ [3, 5] := by simpa using Array.mem_of_getElem? ht
        have hall : ([3, 5].all fun u => !Tryd.prog.wantsStandIn u) = true := by kernel_rfl
        exact (show Tryd.prog.wantsStandIn t = false by simpa using List.all_eq_true.1 hall t hm)⟩)
    (by kernel_rfl)
#print axioms proved

end Go.Proofs.YtbejdfjioanjlaaDoor.digestLengths

/- Contracts of the reference: constants, pad. -/
import Derived.Test.YtbejdfjioanjlaaDoorShaRot
import Derived.Test.YtbejdfjioanjlaaDoorRef2
import Derived.Deep.AppendLies
import Derived.Deep.RegionHeld3
namespace Go.Proofs.YtbejdfjioanjlaaDoor
open Go.ChangeShapes Go.WideShapes Go.ChangeAt Go.RowKit

theorem wrap_u32 (x : Int) : IntKind.u32.wrap x = x % 4294967296 := rfl
/-- A slice of words that lies at its block's head. -/
def WS (w : World) (v : Value) (L : List Nat) : Prop := ∃ g cap, v = .slice (some ⟨g, 0, none⟩) L.length cap ∧ g < w.heap.size ∧ ∀ x, x < L.length → w.cell? ⟨g, x, none⟩ = some (.int .u32 (L.getD x 0 : Nat))
theorem WS.kept {w w' : World} {v : Value} {L : List Nat} (h : WS w v L) (hb : Below w.heap.size w w') : WS w' v L := by
  obtain ⟨g, cap, hv, hg, hc⟩ := h
  exact ⟨g, cap, hv, Nat.lt_of_lt_of_le hg hb.size, fun x hx => (hb.cell (p := ⟨g, x, none⟩) hg).trans (hc x hx)⟩
def kArr : Array Value := #[.int .u32 1116352408, .int .u32 1899447441, .int .u32 3049323471, .int .u32 3921009573, .int .u32 961987163, .int .u32 1508970993, .int .u32 2453635748, .int .u32 2870763221, .int .u32 3624381080, .int .u32 310598401, .int .u32 607225278, .int .u32 1426881987, .int .u32 1925078388, .int .u32 2162078206, .int .u32 2614888103, .int .u32 3248222580, .int .u32 3835390401, .int .u32 4022224774, .int .u32 264347078, .int .u32 604807628, .int .u32 770255983, .int .u32 1249150122, .int .u32 1555081692, .int .u32 1996064986, .int .u32 2554220882, .int .u32 2821834349, .int .u32 2952996808, .int .u32 3210313671, .int .u32 3336571891, .int .u32 3584528711, .int .u32 113926993, .int .u32 338241895, .int .u32 666307205, .int .u32 773529912, .int .u32 1294757372, .int .u32 1396182291, .int .u32 1695183700, .int .u32 1986661051, .int .u32 2177026350, .int .u32 2456956037, .int .u32 2730485921, .int .u32 2820302411, .int .u32 3259730800, .int .u32 3345764771, .int .u32 3516065817, .int .u32 3600352804, .int .u32 4094571909, .int .u32 275423344, .int .u32 430227734, .int .u32 506948616, .int .u32 659060556, .int .u32 883997877, .int .u32 958139571, .int .u32 1322822218, .int .u32 1537002063, .int .u32 1747873779, .int .u32 1955562222, .int .u32 2024104815, .int .u32 2227730452, .int .u32 2361852424, .int .u32 2428436474, .int .u32 2756734187, .int .u32 3204031479, .int .u32 3329325298]

set_option maxRecDepth 20000 in
theorem rconst_any (w : World) :
    Calls Tryd.prog 21 #[] w fun e w' => ∃ v, e = .returned v ∧ WS w' v KL ∧ Below w.heap.size w w' := by
  go_enter Tryd.func21, Tryd.ntmps21
  go_wp2_with fail
  go_ret
  refine ⟨_, rfl, ?_, (Below.refl _ _).alloc (Nat.le_refl _) _⟩
  refine ⟨w.heap.size, 64, rfl, by simp, fun x hx => ?_⟩
  rw [World.cell?_alloc_at _ _ _ _ rfl]
  have hx' : x < 64 := hx
  have e : kArr = (KL.map (fun n : Nat => Value.int .u32 (n : Int))).toArray := by kernel_rfl
  have e2 : kArr[x]? = some (.int .u32 (KL.getD x 0 : Nat)) := by
    rw [e]
    simp only [List.getElem?_toArray, List.getElem?_map]
    rw [List.getD_eq_getElem?_getD, List.getElem?_eq_getElem hx]
    rfl
  exact e2

/-- A slice of bytes that lies at its block's head; up to its capacity its cells are there and may be written. -/
def SB (w : World) (base : Nat) (v : Value) (l : List UInt8) : Prop :=
  ∃ g cap, v = .slice (some ⟨g, 0, none⟩) l.length cap ∧ base ≤ g ∧ g < w.heap.size ∧ l.length ≤ cap ∧ (∀ j (hj : j < l.length), w.cell? ⟨g, j, none⟩ = some (.int .u8 (l[j].toNat : Int))) ∧
    (∀ j, j < cap → (w.cell? ⟨g, j, none⟩).isSome = true ∧ w.frozen? ⟨g, j, none⟩ = false)
theorem SB.bs {w : World} {base g cap : Nat} {l : List UInt8} (h : SB w base (.slice (some ⟨g, 0, none⟩) l.length cap) l) : BS w base (.slice (some ⟨g, 0, none⟩) l.length cap) l := by
  obtain ⟨g', cap', hv, hb, hg, hc, hcell, hsp⟩ := h
  cases hv
  exact ⟨_, cap, rfl, hc, fun _ => ⟨g, 0, rfl, hb, hg, fun j hj => by rw [Nat.zero_add]; exact ⟨hcell j hj, (hsp j (by omega)).2⟩⟩⟩
theorem SB.alloc {w : World} {base : Nat} {v : Value} {l : List UInt8} (h : SB w base v l) (o : Obj) : SB (w.alloc o) base v l := by
  obtain ⟨g, cap, hv, hb, hg, hc, hcell, hsp⟩ := h
  have hk := (Below.refl w.heap.size w).alloc (Nat.le_refl _) o
  exact ⟨g, cap, hv, hb, by simp; omega, hc, fun j hj => (hk.cell (p := ⟨g, j, none⟩) hg).trans (hcell j hj), fun j hj => by rw [hk.cell (p := ⟨g, j, none⟩) hg, hk.frozen (p := ⟨g, j, none⟩) hg]; exact hsp j hj⟩

theorem sb_new (w : World) (s : ByteArray) (cap : Nat) (hcap : s.size ≤ cap) :
    SB (w.alloc (.cells (bytesRow s cap) 5 ((bytesRow s cap).size, (bytesRow s cap).size + 1))) w.heap.size (.slice (some ⟨w.heap.size, 0, none⟩) s.size cap) s.data.toList := by
  have hl : s.data.toList.length = s.size := by simp
  have hsz : (bytesRow s cap).size = cap := by unfold bytesRow; simp; omega
  refine ⟨w.heap.size, cap, by rw [hl], Nat.le_refl _, by simp, by rw [hl]; exact hcap, fun j hj => ?_, fun j hj => ⟨?_, ?_⟩⟩
  · have hj' : j < s.data.size := by rw [hl] at hj; exact hj
    rw [World.cell?_alloc_mark, bytesRow_at s cap j hj']
    simp
  · rw [World.cell?_alloc_mark, Array.getElem?_eq_getElem (by omega)]; rfl
  · rw [World.frozen?_alloc_mark]
    simp
    intro
    omega

theorem run_append_sb (base : Nat) (ty : TypeId) (w : World) {l : List UInt8} {g cap : Nat} (h : SB w base (.slice (some ⟨g, 0, none⟩) l.length cap) l) (ad : Addr) (c : Nat) (b : UInt8) (had : w.cell? (ad.add 0) = some (.int .u8 (b.toNat : Int))) (h63 : l.length ≤ 140737488355327) :
    ∃ g' cap' w', (Builtin.append_ #[27, 27] ty #[.slice (some ⟨g, 0, none⟩) l.length cap, .slice (some ad) 1 c]).run Tryd.prog w = .ok (.slice (some ⟨g', 0, none⟩) (l.length + 1) cap') w' ∧ SB w' base (.slice (some ⟨g', 0, none⟩) (l.length + 1) cap') (l ++ [b]) ∧ Below base w w' := by
  obtain ⟨i0, hi, hz0, hz1, hz2⟩ := info_parts info5
  obtain ⟨g', cap', hv, hb, hg, hc, hcell, hsp⟩ := h
  cases hv
  have hl1 : (l ++ [b]).length = l.length + 1 := by simp
  have hnews : ∀ j u, ([Value.int .u8 (b.toNat : Int)] : List Value)[j]? = some u → w.cell? (ad.add j) = some u := fun j u hj => by
    match j, hj with
    | 0, hj => simp at hj; subst hj; exact had
  by_cases hr : l.length + 1 ≤ cap
  · have hrun := run_append_room_cells (P := Tryd.prog) w 27 ty 5 i0 Tryd.underlying27 hi g 0 l.length cap ad 1 c [.int .u8 (b.toNat : Int)] (by rw [hz1]; rfl) hnews (by simp [Value.oneCell']) hr
      (fun j hj => by simp at hj; subst hj; rw [hz1]; simpa using (hsp l.length (by omega)).1) (fun j hj => by simp at hj; subst hj; rw [hz1]; simpa using (hsp l.length (by omega)).2)
    rw [hz1] at hrun
    simp only [Nat.zero_add, Nat.mul_one] at hrun
    refine ⟨g, cap, _, hrun, ?_, (Below.refl _ _).setCell hb _⟩
    show SB (w.setCell ⟨g, l.length, none⟩ (.int .u8 (b.toNat : Int))) base _ _
    refine ⟨g, cap, by rw [hl1], hb, by rw [size_set]; exact hg, by rw [hl1]; exact hr, fun j hj => ?_, fun j hj => ⟨?_, ?_⟩⟩
    · by_cases e : j = l.length
      · subst e
        obtain ⟨u, hu⟩ := Option.isSome_iff_exists.1 (hsp l.length (by omega)).1
        rw [cell_set_same _ hu]
        simp
      · rw [cell_set_far _ _ _ _ _ (fun h => e h.symm), hcell j (by omega), List.getElem_append_left (by omega)]
    · by_cases e : j = l.length
      · subst e
        obtain ⟨u, hu⟩ := Option.isSome_iff_exists.1 (hsp l.length (by omega)).1
        rw [cell_set_same _ hu]; rfl
      · rw [cell_set_far _ _ _ _ _ (fun h => e h.symm)]; exact (hsp j hj).1
    · rw [frozen_set]; exact (hsp j hj).2
  · obtain ⟨v', w', hrun, r1, r2⟩ := run_append_arg_grows (P := Tryd.prog) w 27 ty 5 i0 (.int .u8 0) 1 1 Tryd.underlying27 hi hz0 hz1 hz2 rfl (by decide) ⟨g, 0, none⟩ l.length cap (cellsOf l) (by rw [cellsOf_length, Nat.mul_one])
      (fun j u hj => by
        rw [Addr.add_lit, Nat.zero_add]
        unfold cellsOf at hj
        rw [List.getElem?_map] at hj
        by_cases hjl : j < l.length
        · rw [List.getElem?_eq_getElem hjl] at hj
          rw [hcell j hjl]; exact hj
        · rw [List.getElem?_eq_none (by omega)] at hj; cases hj) ad 1 c [.int .u8 (b.toNat : Int)] rfl hnews (by omega) (by unfold maxLen; omega) (by omega)
    obtain ⟨g', cap', hv', hbg, hgl⟩ := r1.form (by omega)
    subst hv'
    rw [cellsOf_snoc] at r1
    have hbl : Below base w w' := ⟨r2.os, r2.tape, r2.output, r2.size, fun k hk => r2.block k (by omega) (by simp)⟩
    refine ⟨g', cap', w', hrun, ?_, hbl⟩
    rcases r1.2 with ⟨h0, _⟩ | ⟨g2, c2, cur, hv2, hb2, hh2, hn2, hm2, hs2, ht2⟩
    · cases h0
    · cases hv2
      have hcu : ∀ j, w'.cell? ⟨g', j, none⟩ = cur[j]? := fun j => by simp [World.cell?, hh2]
      refine ⟨g', cap', by rw [hl1], by omega, hgl, by rw [hl1]; exact hn2, fun j hj => ?_, fun j hj => ⟨?_, ?_⟩⟩
      · rw [hcu]
        have e1 : (cellsOf (l ++ [b]))[j]? = some (.int .u8 ((l ++ [b])[j].toNat : Int)) := by
          unfold cellsOf
          rw [List.getElem?_map, List.getElem?_eq_getElem hj]; rfl
        rw [← e1, ← ht2, List.getElem?_take_of_lt (by rw [← hl1, Nat.mul_one]; exact hj)]
        simp
      · rw [hcu, Array.getElem?_eq_getElem (by omega)]; rfl
      · simp [World.frozen?, hh2]

theorem wpList_append_sb {w : World} {ops : Array Oper} {more : List Oper} {o : Oper} {a : Act} {Q : Exit → Act → World → Prop} (hgd : o.guard = none) (d x : Operand)
    (hop : o.op = .call { callee := .builtin .append, args := #[d, x], argTypes := #[27, 27] }) (base : Nat) (l : List UInt8) (n : Nat) (hn : l.length = n) (g cap : Nat) (h : SB w base (.slice (some ⟨g, 0, none⟩) n cap) l) (ad : Addr) (c : Nat) (b : UInt8) (h63 : n ≤ 140737488355327)
    (hd : a.eval d = .slice (some ⟨g, 0, none⟩) n cap) (hx : a.eval x = .slice (some ad) 1 c) (had : w.cell? (ad.add 0) = some (.int .u8 (b.toNat : Int)))
    (hK : ∀ g' cap' w', SB w' base (.slice (some ⟨g', 0, none⟩) (n + 1) cap') (l ++ [b]) → Below base w w' → wpList Tryd.prog ops Q more (a.put o.dst (.slice (some ⟨g', 0, none⟩) (n + 1) cap')) w') : wpList Tryd.prog ops Q (o :: more) a w := by
  refine wpList_plain hgd fun K hK' => ?_
  subst hn
  obtain ⟨g', cap', w', hrun, h1, h2⟩ := run_append_sb base o.type w h ad c b had h63
  unfold Oper.wp
  simp [execOp, hop, resolve, invoke, builtin, hd, hx, hrun, Result.andThen]
  exact hK' _ _ (hK g' cap' w' h1 h2)
def sliceLen : Value → Nat
  | .slice _ n _ => n
  | _ => 0

set_option maxRecDepth 20000 in
theorem rpad_any (s : ByteArray) (w : World) (hs : s.size ≤ 1000000) :
    Calls Tryd.prog 20 #[.string s] w fun e w' => ∃ A cap, e = .returned (.slice A (s.data.toList ++ padL s.size).length cap) ∧ BS w' w.heap.size (.slice A (s.data.toList ++ padL s.size).length cap) (s.data.toList ++ padL s.size) ∧ Below w.heap.size w w' := by
  obtain ⟨i0, hi, hz0, hz1, hz2⟩ := info_parts info5
  have hconv := fun W s' => run_bytes_of_string (P := Tryd.prog) W 9 27 5 s' Tryd.underlying9 Tryd.underlying27 Tryd.underlying5
  have hl : s.data.toList.length = s.size := by simp
  have hstart := fun W cap h => sb_new W s cap h
  have hpl : padL s.size = 128 :: (List.replicate ((119 - s.size % 64) % 64) 0 ++ beL8 (8 * s.size)) := rfl
  generalize padL s.size = R at *
  generalize s.data.toList = L at *
  obtain ⟨z, hz⟩ : ∃ z, z = (119 - s.size % 64) % 64 := ⟨_, rfl⟩
  rw [← hz] at hpl
  have hgc := fun W => grownCap_ge W s.size 0 5
  have HST := Lib.hid hstart
  have HPL := Lib.hid hpl
  have HZ := Lib.hid hz
  have HL := Lib.hid hl
  have HGC := Lib.hid hgc
  clear hstart hpl hz hl hgc
  have had : ∀ (W : World) (v : Value) (B : Nat), B = W.heap.size → (W.alloc (.cells #[v] 5)).cell? ((⟨B, 0, none⟩ : Addr).add 0) = some v := fun W v B hB => by
    subst hB
    exact World.news_of_block (cs := #[v]) (t := 5) (fr := (0, 0)) (heap_alloc_new W _) 0 v rfl
  have HAD := Lib.hid had
  clear had
  go_enter Tryd.func20, Tryd.ntmps20
  go_wp2_with (at_builtin; refine wpList_append_sb rfl (.tmp 8) (.tmp 9) (by rfl) w.heap.size L s.size HL.out w.heap.size (grownCap w s.size 0 5) ?c1 ⟨w.heap.size + 1, 0, none⟩ 1 128 (by omega) (by rfl) (by rfl) ?c2 ?_)
  case c1 => exact (HST.out w _ (HGC.out w)).alloc _
  case c2 => exact HAD.out _ _ _ (by simp)
  intro g1 cap1 w1 hsb hb1
  have hb1' : Below w.heap.size w w1 := (((Below.refl _ _).alloc (Nat.le_refl _) _).alloc (by simp) _).drew.trans hb1
  generalize hn1 : s.size + 1 = n1 at *
  have HN1 := Lib.hid hn1
  clear hb1 hn1
  go_wp2_with fail
  go_loopw [3] (fun b wr => ∃ k : Nat, ∃ n g cap, k ≤ z ∧ n = n1 + k ∧ b = .slice (some ⟨g, 0, none⟩) n cap ∧ SB wr w.heap.size (.slice (some ⟨g, 0, none⟩) n cap) (L ++ 128 :: List.replicate k 0) ∧ Below w.heap.size w wr) (fun b _ => n1 + z - sliceLen b)
  case atStart => exact ⟨0, n1, g1, cap1, by omega, rfl, rfl, hsb, hb1'⟩
  case round =>
    clear hsb hb1'
    obtain ⟨k, n, g2, cap2, hk, hn, rfl, hsb, hb⟩ := hrel
    have hnl : (L ++ 128 :: List.replicate k 0).length = n := by have := HL.out; have := HN1.out; simp; omega
    have hn2 : n ≤ 1000100 := by have := HZ.out; have := HN1.out; omega
    have HN := Lib.hid hn
    have HNL := Lib.hid hnl
    clear hn hnl
    by_cases hlt : k < z
    · have htest : ((n : Int) % 64 != 56) = true := by
        have := HN.out; have := HN1.out; have := HZ.out
        simp only [bne_iff_ne, ne_eq]
        omega
      have hsn : (L ++ 128 :: List.replicate k 0) ++ [0] = L ++ 128 :: List.replicate (k + 1) 0 := by rw [List.replicate_succ']; simp
      generalize hE : L ++ 128 :: List.replicate (k + 1) 0 = E' at *
      have HE := Lib.hid hE
      have HS := Lib.hid hsn
      clear hE hsn
      generalize L ++ 128 :: List.replicate k 0 = E at *
      go_wp2_with (at_builtin; refine wpList_append_sb rfl (.tmp 15) (.tmp 16) (by rfl) w.heap.size E n HNL.out g2 cap2 (hsb.alloc _) ⟨wr.heap.size, 0, none⟩ 1 0 (by omega) (by rfl) (by rfl) (HAD.out _ _ _ (by rfl)) ?_)
      intro g3 cap3 w3 hsb3 hb3
      rw [HS.out] at hsb3
      have hb3' : Below w.heap.size w w3 := (hb.alloc hb.size _).trans hb3
      have HN3 : Hid (n + 1 = n1 + (k + 1)) := by have := HN.out; show _ = _; omega
      clear hsb hb3 hb
      go_wp2_with fail
      go_roundw
      case rel => exact ⟨k + 1, n + 1, g3, cap3, by omega, HN3.out, rfl, by rw [HE.out]; exact hsb3, hb3'⟩
      case measure => have := HN.out; simp [sliceLen]; omega
    · obtain rfl : k = z := by omega
      have htest : ((n : Int) % 64 != 56) = false := by
        have := HN.out; have := HN1.out; have := HZ.out
        simp only [bne_eq_false_iff_eq]
        omega
      obtain ⟨c, hc⟩ : ∃ c, c = 8 * s.size := ⟨_, rfl⟩
      have hci : (s.size : Int) * 8 = (c : Int) := by omega
      have hcl : c < 9223372036854775808 := by omega
      have hR : L ++ R = (L ++ 128 :: List.replicate k 0) ++ (leL 8 c).reverse := by rw [HPL.out, hc]; simp [beL8]
      have HR := Lib.hid hR
      clear hc hR
      generalize L ++ 128 :: List.replicate k 0 = E at *
      go_wp2_with fail
      go_loopw [3, 5] (fun b i wr => ∃ j : Nat, ∃ n g cap, j ≤ 8 ∧ i = .int .i64 ((j : Int) - 1) ∧ (E ++ ((leL 8 c).drop j).reverse).length = n ∧ n ≤ 1000200 - j ∧ b = .slice (some ⟨g, 0, none⟩) n cap ∧ SB wr w.heap.size (.slice (some ⟨g, 0, none⟩) n cap) (E ++ ((leL 8 c).drop j).reverse) ∧ Below w.heap.size w wr) (fun _ i _ => (intOf i + 1).toNat)
      case atStart =>
        have e8 : ((leL 8 c).drop 8).reverse = [] := by rw [List.drop_eq_nil_of_le (by rw [leL_length]; omega)]; rfl
        exact ⟨8, n, g2, cap2, by omega, by go_num, by rw [e8, List.append_nil]; exact HNL.out, by omega, rfl, by rw [e8, List.append_nil]; exact hsb, hb⟩
      case round =>
        clear hsb hb HN HNL
        obtain ⟨j, n, g2, cap2, hj, rfl, hnl, hn2, rfl, hsb, hb⟩ := hrel
        have HNL := Lib.hid hnl
        clear hnl
        rcases j with _ | q
        · rw [show (((0 : Nat) : Int) - 1) = -1 by omega]
          rw [List.drop_zero, ← HR.out] at *
          have hn' : L.length + R.length = n := by rw [← HNL.out, List.length_append]
          have hbs : BS wr w.heap.size (.slice (some ⟨g2, 0, none⟩) (L.length + R.length) cap2) (L ++ R) := by
            have h2 := hsb
            rw [← HNL.out] at h2
            have h3 := SB.bs h2
            rw [List.length_append] at h3
            exact h3
          have HBS := Lib.hid hbs
          have HN' := Lib.hid hn'
          clear hsb hn' hbs
          go_wp2_with fail
          go_ret
          exact ⟨some ⟨g2, 0, none⟩, cap2, by rw [HN'.out]; rfl, HBS.out, hb⟩
        · rw [show (((q + 1 : Nat) : Int) - 1) = (q : Int) by omega]
          have hq : q < (leL 8 c).length := by rw [leL_length]; omega
          have hsn := back_take (leL 8 c) q hq
          have hby : ((leL 8 c)[q]).toNat = c / pw q % 256 := by
            rw [leL_get, UInt8.toNat_ofNat']
            unfold pw
            omega
          generalize (leL 8 c)[q] = by8 at *
          have hsn2 : (E ++ ((leL 8 c).drop (q + 1)).reverse) ++ [by8] = E ++ ((leL 8 c).drop q).reverse := by rw [List.append_assoc, hsn]
          have hval : (c : Int) / 2 ^ (8 * q) % 256 = (by8.toNat : Int) := by rw [shr_pw', hby]; simp
          have hnl2 : (E ++ ((leL 8 c).drop q).reverse).length = n + 1 := by rw [← hsn2, List.length_append, HNL.out]; rfl
          have HS := Lib.hid hsn2
          have HNL2 := Lib.hid hnl2
          clear hsn hsn2 hby hnl2
          generalize hE : E ++ ((leL 8 c).drop q).reverse = E2 at *
          have HE := Lib.hid hE
          clear hE
          generalize E ++ ((leL 8 c).drop (q + 1)).reverse = E1 at *
          go_wp2_with (at_builtin; refine wpList_append_sb rfl (.tmp 26) (.tmp 33) (by rfl) w.heap.size E1 n HNL.out g2 cap2 (hsb.alloc _) ⟨wr.heap.size, 0, none⟩ 1 by8 (by omega) (by rfl) (by rfl) (HAD.out _ _ _ (by rfl)) ?_)
          intro g3 cap3 w3 hsb3 hb3
          rw [HS.out] at hsb3
          have hb3' : Below w.heap.size w w3 := (hb.alloc hb.size _).trans hb3
          clear hsb hb3 hb
          go_wp2_with fail
          go_roundw
          case rel => exact ⟨q, n + 1, g3, cap3, by omega, by go_num, by rw [HE.out]; exact HNL2.out, by omega, rfl, by rw [HE.out]; exact hsb3, hb3'⟩
          case measure => simp [intOf]
end Go.Proofs.YtbejdfjioanjlaaDoor

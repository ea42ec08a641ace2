/- Contracts of the functions, part 28: Ip4PEna, Ip4PPar. -/
import Derived.Test.YtimilcjlogcfhaaPE17
import Derived.Test.YtimilcjlogcfhaaPE27
/- Contract of the program of layer 11: Encode, of any packet. -/
namespace Go.Proofs.Ytimilcjlogcfhaa
open Go.ChangeShapes Go.WideShapes Go.ChangeAt Go.RowKit
set_option linter.unusedVariables false

theorem penc11_any (p : Ip4R) (A : Option Addr) (c : Nat) (w : World) (h : RowL EOpt w A p.ops) (hl : p.ops.length ≤ 1000) (hd : ∀ x ∈ p.ops, x.dat.length ≤ 281474976710656) (hp : p.pay.length ≤ 1000000) :
    Calls Try.prog 15 #[.agg (ipC p p.ops.length A c (str p.pay))] w (Enc4P w (encI p)) := by
  obtain ⟨p0, hp0⟩ : ∃ q, q = p := ⟨_, rfl⟩
  obtain ⟨tos, id, ttl, proto, dont, more, off, ⟨sv, sh, sl⟩, ⟨dv, dh, dl⟩, l, pay⟩ := p
  dsimp only at h hl hd hp
  by_cases hb : badI p0
  · rw [← hp0, show encI p0 = ([], 4) by unfold encI; rw [if_pos hb]]
    rw [hp0] at hb ⊢
    refine penc11_bad tos id ttl proto off dont more sv dv sh sl dh dl l.length (str pay) A c w (fun W hW => ?_)
    exact prange11_any tos id ttl proto off dont more sv dv sh sl dh dl l A c (str pay) false W (h.kept hW) hl ⟨fun e => (by cases e), fun e => absurd hb e⟩
  · have hb' : ¬ ((tos < 0 ∨ 255 < tos) ∨ (ttl < 0 ∨ 255 < ttl) ∨ (proto < 0 ∨ 255 < proto) ∨ (id < 0 ∨ 65535 < id) ∨ (off < 0 ∨ 65528 < off ∨ off % 8 ≠ 0) ∨ ¬ a4 ⟨sv, sh, sl⟩ ∨ ¬ a4 ⟨dv, dh, dl⟩ ∨ ∃ x ∈ l, x.kd < 2 ∨ 255 < x.kd) := by rw [hp0] at hb; exact hb
    have hs : a4 ⟨sv, sh, sl⟩ := Classical.byContradiction fun e => hb' (.inr (.inr (.inr (.inr (.inr (.inl e))))))
    have ht : a4 ⟨dv, dh, dl⟩ := Classical.byContradiction fun e => hb' (.inr (.inr (.inr (.inr (.inr (.inr (.inl e)))))))
    have hk : okK l := fun x hx => by
      have : ¬ (x.kd < 2 ∨ 255 < x.kd) := fun e => hb' (.inr (.inr (.inr (.inr (.inr (.inr (.inr ⟨x, hx, e⟩)))))))
      omega
    have hrg := fun (W : World) (hW : Below w.heap.size w W) => prange11_any tos id ttl proto off dont more sv dv sh sl dh dl l A c (str pay) true W (h.kept hW) hl ⟨fun _ => hb', fun _ => rfl⟩
    obtain ⟨rfl, rfl, hsl⟩ := hs
    obtain ⟨rfl, rfl, hdl⟩ := ht
    obtain ⟨T, rfl⟩ : ∃ T : Nat, tos = T := ⟨tos.toNat, by omega⟩
    obtain ⟨I, rfl⟩ : ∃ T : Nat, id = T := ⟨id.toNat, by omega⟩
    obtain ⟨L, rfl⟩ : ∃ T : Nat, ttl = T := ⟨ttl.toNat, by omega⟩
    obtain ⟨X, rfl⟩ : ∃ T : Nat, proto = T := ⟨proto.toNat, by omega⟩
    obtain ⟨F, rfl⟩ : ∃ T : Nat, off = T := ⟨off.toNat, by omega⟩
    rw [← hp0]
    have := penc11_ok T I L X F sl dl l.length dont more l pay (str pay) A c p0 w hp0 rfl rfl hb (by omega) (by omega) (by omega) (by omega) (by omega) hsl hdl hk hl hd hp h hrg
    rw [hp0] at this ⊢
    exact this
end Go.Proofs.Ytimilcjlogcfhaa

/- Contracts of the program of layer 11: partOptions. -/
namespace Go.Proofs.Ytimilcjlogcfhaa
open Go.ChangeShapes Go.WideShapes Go.ChangeAt Go.RowKit
set_option linter.unusedVariables false

/-- New options. -/
def NewO (l : List OpR) (w : World) (e : Ending) (w' : World) : Prop :=
  ∃ A c, e = .returned (.slice A l.length c) ∧ RowL EOpt w' A l ∧ (A = none → c = 0) ∧ (∀ b, A = some b → w.heap.size ≤ b.block) ∧ Below w.heap.size w w'
set_option maxHeartbeats 4000000 in
set_option maxRecDepth 20000 in
theorem ppart11_any (A : Option Addr) (c : Nat) (l : List OpR) (a : Nat) (b : Bool) (hb : (a == 0) = b) (w : World) (h : RowL EOpt w A l) (hl : l.length ≤ 1000) :
    Calls Try.prog 47 #[.slice A l.length c, .bool b] w (NewO (opsAt l a) w) := by
  obtain ⟨n, hn⟩ : ∃ n, n = l.length := ⟨_, rfl⟩
  rw [← hn] at hl ⊢
  have HN := Lib.hid hn
  have HS := Lib.hid h
  have HAB := Lib.hid hb
  clear hn h hb
  have HO0 := Lib.hid (show w.ownsRow w.heap.size 50 2 (.slice none 0 0) 0 (EOpt.cells []) from World.ownsRow_nil w w.heap.size 50 2)
  go_enter Try.func47, Try.ntmps47
  go_wp2_with fail
  go_loopw [5, 10] (fun v5 v10 wr => ∃ (k m : Nat) (A2 : Option Addr) (c2 : Nat), v5 = .slice A2 m c2 ∧ v10 = .int .i64 (k : Int) ∧ k ≤ n ∧ m ≤ k ∧ Hid (m = (opsAt (l.take k) a).length) ∧ Hid (wr.ownsRow w.heap.size 50 2 (.slice A2 m c2) m (EOpt.cells (opsAt (l.take k) a))) ∧ Hid (Below w.heap.size w wr)) (fun _ v10 _ => n - (intOf v10).toNat)
  case atStart => exact ⟨0, 0, none, 0, rfl, rfl, Nat.zero_le _, Nat.zero_le _, Lib.hid rfl, HO0, Lib.hid (Below.refl _ _)⟩
  case round =>
    clear HO0
    obtain ⟨k, m, A2, c2, rfl, rfl, hk, hmk, HM, HO, HB⟩ := hrel
    have hk0 : (0 : Int) ≤ (k : Int) := by omega
    by_cases hlt : k < n
    · have hki : (k : Int) < (n : Int) := by omega
      have dlt : decide ((k : Int) < (n : Int)) = true := by simp; omega
      obtain ⟨x, hget⟩ : ∃ x, l[k]? = some x := ⟨l[k]'(by have := HN.out; omega), List.getElem?_eq_getElem _⟩
      obtain ⟨g, ob, rfl, hg⟩ := HS.out.shapeA (by have := HN.out; omega)
      obtain ⟨c0, c1⟩ := opt_at HS.out hget HB.out
      have hnx := opsAt_next (a := a) hget
      rw [HAB.out] at hnx
      clear hget
      obtain ⟨W1, hW1⟩ : ∃ W, W = wr.alloc (.cells #[.int .i64 x.kd, .string (str x.dat)] 50) := ⟨_, rfl⟩
      have hX : Cells W1 wr.heap.size 50 #[.int .i64 x.kd, .string (str x.dat)] := by rw [hW1]; exact heap_alloc_new wr _
      have x0 := (Cells.cell hX 0).trans (show _ = some (Value.int .i64 x.kd) from rfl)
      have x1 := (Cells.cell hX 1).trans (show _ = some (Value.string (str x.dat)) from rfl)
      have hb1 := HB.out.alloc HB.out.size (.cells #[.int .i64 x.kd, .string (str x.dat)] 50)
      have ho1 := HO.out.alloc (.cells #[.int .i64 x.kd, .string (str x.dat)] 50)
      rw [← hW1] at hb1 ho1
      have HB1 := Lib.hid hb1
      have HO1 := Lib.hid ho1
      have HXC := Lib.hid (show EOpt.cells [x] = [.int .i64 x.kd, .string (str x.dat)] from rfl)
      have HW := Lib.hid hW1
      have hgl : wr.heap.size < W1.heap.size := Cells.lt hX
      have hbz : w.heap.size ≤ W1.heap.size := hb1.size
      have HBZ := Lib.hid HB.out.size
      clear hb1 ho1 hX hW1 HO HB
      cases e : (b || decide (128 ≤ x.kd))
      · rw [e, if_neg (by decide), List.append_nil] at hnx
        rw [Bool.or_eq_false_iff] at e
        obtain ⟨rfl, ex⟩ := e
        have HM1 := Lib.hid (show m = (opsAt (l.take (k + 1)) a).length by rw [hnx]; exact HM.out)
        have HO2 := Lib.hid (show W1.ownsRow w.heap.size 50 2 (.slice A2 m c2) m (EOpt.cells (opsAt (l.take (k + 1)) a)) by rw [hnx]; exact HO1.out)
        have nex : ¬ 128 ≤ x.kd := by simpa using ex
        clear hnx HM HO1
        go_wp2_with fail
        rw [← HW.out]
        go_wp2_with fail
        go_roundw
        case rel => exact ⟨k + 1, m, A2, c2, rfl, by go_num, by omega, by omega, HM1, HO2, HB1⟩
        case measure => simp [intOf]; omega
      · rw [e, if_pos rfl] at hnx
        have HNX := Lib.hid hnx
        clear hnx
        cases b
        · have ex : decide (128 ≤ x.kd) = true := by simpa using e
          have nex : 128 ≤ x.kd := by simpa using ex
          clear e
          obtain rfl := HW.out
          clear HW
          go_wp2_with (at_builtin; refine wpList_push (E := EOpt) optTy (by rfl) _ _ (by rfl) w.heap.size _ m (opsAt (l.take k) a) [x] (by rfl) (HO1.out.alloc _) _ 1 1 #[.int .i64 x.kd, .string (str x.dat)] (0, 0) (by rfl) (alloc2_1 _ _ _) HXC.out.symm rfl (by omega) (by omega) (by decide) ?hb ?_)
          case hb => have := HBZ.out; simp; omega
          intro g2 cap2 w9 hown hgrow hat hlt2
          have hb9 := ((Below.refl w.heap.size _).alloc HB1.out.size (.cells #[.int .i64 x.kd, .string (str x.dat)] 50)).grown hgrow (by have := HBZ.out; simp; omega) (fun j hj => (own_blk_in HO1.out _ hj).1)
          have HB9 := Lib.hid (HB1.out.trans hb9)
          have HO9 := Lib.hid (show w9.ownsRow w.heap.size 50 2 (.slice (some ⟨g2, 0, none⟩) (m + 1) cap2) (m + 1) (EOpt.cells (opsAt (l.take (k + 1)) a)) by rw [HNX.out]; exact hown)
          have HN9 := Lib.hid (show m + 1 = (opsAt (l.take (k + 1)) a).length by rw [HNX.out, List.length_append, HM.out]; rfl)
          clear hown hgrow hat hlt2 hb9 HB1 HO1 HM c0 c1 HNX HXC x0 x1
          go_wp2_with fail
          go_roundw
          case rel => exact ⟨k + 1, m + 1, some ⟨g2, 0, none⟩, cap2, rfl, by go_num, by omega, by omega, HN9, HO9, HB9⟩
          case measure => simp [intOf]; omega
        · clear e
          obtain rfl := HW.out
          clear HW
          go_wp2_with (at_builtin; refine wpList_push (E := EOpt) optTy (by rfl) _ _ (by rfl) w.heap.size _ m (opsAt (l.take k) a) [x] (by rfl) (HO1.out.alloc _) _ 1 1 #[.int .i64 x.kd, .string (str x.dat)] (0, 0) (by rfl) (alloc2_1 _ _ _) HXC.out.symm rfl (by omega) (by omega) (by decide) ?hb ?_)
          case hb => have := HBZ.out; simp; omega
          intro g2 cap2 w9 hown hgrow hat hlt2
          have hb9 := ((Below.refl w.heap.size _).alloc HB1.out.size (.cells #[.int .i64 x.kd, .string (str x.dat)] 50)).grown hgrow (by have := HBZ.out; simp; omega) (fun j hj => (own_blk_in HO1.out _ hj).1)
          have HB9 := Lib.hid (HB1.out.trans hb9)
          have HO9 := Lib.hid (show w9.ownsRow w.heap.size 50 2 (.slice (some ⟨g2, 0, none⟩) (m + 1) cap2) (m + 1) (EOpt.cells (opsAt (l.take (k + 1)) a)) by rw [HNX.out]; exact hown)
          have HN9 := Lib.hid (show m + 1 = (opsAt (l.take (k + 1)) a).length by rw [HNX.out, List.length_append, HM.out]; rfl)
          clear hown hgrow hat hlt2 hb9 HB1 HO1 HM c0 c1 HNX HXC x0 x1
          go_wp2_with fail
          go_roundw
          case rel => exact ⟨k + 1, m + 1, some ⟨g2, 0, none⟩, cap2, rfl, by go_num, by omega, by omega, HN9, HO9, HB9⟩
          case measure => simp [intOf]; omega
    · obtain rfl : k = n := by omega
      have dlt : decide ((k : Int) < (k : Int)) = false := by simp
      have nlt : ¬ (k : Int) < (k : Int) := by omega
      have HE := Lib.hid (show opsAt (l.take k) a = opsAt l a by rw [HN.out, List.take_length])
      go_wp2_with fail
      go_ret
      have ho := HO.out
      have hm := HM.out
      rw [HE.out] at ho hm
      exact ⟨A2, c2, by rw [← hm]; rfl, rowl_of_own (E := EOpt) ho hm, fun hA => by subst hA; exact (own_none ho).2, fun b hb => (own_blk_in ho b.block (by rw [hb]; rfl)).1, HB.out⟩
end Go.Proofs.Ytimilcjlogcfhaa

/- Contracts of the functions, part 30: Ip6All. -/
import Derived.Deep.Cut
import Derived.BigQuiet
import Derived.Test.YtjjldolafnfpoaaPE6
import Derived.Test.YtjjldolafnfpoaaPE12
import Derived.Test.YtjjldolafnfpoaaPE20
/- Contract of the reference of layer 12: All, of two equal lists. -/
namespace Go.Proofs.Ytjjldolafnfpoaa
open Go.ChangeShapes Go.WideShapes Go.ChangeAt Go.RowKit
set_option linter.unusedVariables false

set_option maxHeartbeats 8000000 in
set_option maxRecDepth 100000 in
theorem rall12_any (L : List Ip6R) (es1 es2 : List Ip6E) (A1 A2 : Option Addr) (c1 c2 : Nat) (w : World) (hm1 : es1.map (·.1) = L) (hm2 : es2.map (·.1) = L) (hr1 : RowL EIp6 w A1 es1) (hr2 : RowL EIp6 w A2 es2) (ho1 : ∀ x ∈ es1, RowL EOpt w x.2.1 x.1.exts) (ho2 : ∀ x ∈ es2, RowL EOpt w x.2.1 x.1.exts) (hex : ∀ y ∈ L, y.exts.length ≤ 1000000) (hn : L.length ≤ 1000000) :
    Calls Try.prog 19 #[.slice A1 L.length c1, .slice A2 L.length c2] w fun e w' => e = .returned (.bool true) ∧ Below w.heap.size w w' := by
  obtain ⟨nn, hnn⟩ : ∃ k, k = L.length := ⟨_, rfl⟩
  rw [← hnn] at hn ⊢
  have HNN := Lib.hid hnn
  have HM1 := Lib.hid hm1
  have HM2 := Lib.hid hm2
  have HR1 := Lib.hid hr1
  have HR2 := Lib.hid hr2
  have HO1 := Lib.hid ho1
  have HO2 := Lib.hid ho2
  have HEX := Lib.hid hex
  clear hnn hm1 hm2 hr1 hr2 ho1 ho2 hex
  go_enter Try.func19, Try.ntmps19
  go_wp2_with fail
  go_loopw [5] (fun i wr => ∃ k : Nat, i = .int .i64 (k : Int) ∧ k ≤ nn ∧ Hid (Below w.heap.size w wr)) (fun i _ => nn - (intOf i).toNat)
  case atStart => exact ⟨0, rfl, Nat.zero_le _, Lib.hid (Below.refl _ _)⟩
  case round =>
    obtain ⟨k, rfl, hk, HB⟩ := hrel
    by_cases hlt : k < nn
    · have hki : (k : Int) < (nn : Int) := by omega
      have hki0 : (0 : Int) ≤ (k : Int) := by omega
      have dlt : decide ((k : Int) < (nn : Int)) = true := by simp; omega
      have hl1 : es1.length = nn := by rw [HNN.out, ← HM1.out, List.length_map]
      have hl2 : es2.length = nn := by rw [HNN.out, ← HM2.out, List.length_map]
      obtain ⟨x1, hx1⟩ : ∃ x, es1[k]? = some x := ⟨es1[k]'(by omega), List.getElem?_eq_getElem _⟩
      obtain ⟨x2, hx2⟩ : ∃ x, es2[k]? = some x := ⟨es2[k]'(by omega), List.getElem?_eq_getElem _⟩
      have hy1 : L[k]? = some x1.1 := by rw [← HM1.out, List.getElem?_map, hx1]; rfl
      have hy2 : L[k]? = some x2.1 := by rw [← HM2.out, List.getElem?_map, hx2]; rfl
      have hyy : x2.1 = x1.1 := by rw [hy1] at hy2; exact (Option.some.inj hy2).symm
      obtain ⟨y, B1, d1⟩ := x1
      obtain ⟨y2, B2', d2⟩ := x2
      dsimp only at hyy hy1
      subst hyy
      have hyo := HEX.out y2 (List.mem_of_getElem? hy1)
      obtain ⟨g1, o1, rfl, hg1⟩ := HR1.out.shapeA (by omega)
      obtain ⟨g2, o2, rfl, hg2⟩ := HR2.out.shapeA (by omega)
      have HC1 := Lib.hid (fun (W : World) (hb : Below w.heap.size w W) (j : Nat) (v : Value) (hv : (EIp6.c (y2, B1, d1))[j]? = some v) => HR1.out.at_ hx1 hb j v hv)
      have HC2 := Lib.hid (fun (W : World) (hb : Below w.heap.size w W) (j : Nat) (v : Value) (hv : (EIp6.c (y2, B2', d2))[j]? = some v) => HR2.out.at_ hx2 hb j v hv)
      have HQ1 := Lib.hid (HO1.out _ (List.mem_of_getElem? hx1))
      have HQ2 := Lib.hid (HO2.out _ (List.mem_of_getElem? hx2))
      have HSM := Lib.hid (fun (W : World) (h1 : RowL EOpt W B1 y2.exts) (h2 : RowL EOpt W B2' y2.exts) => rsame12_any y2.cls y2.lab y2.hops y2.nxt y2.id y2.off y2.src.v6 y2.dst.v6 y2.frg y2.more y2.src.hi y2.src.lo y2.dst.hi y2.dst.lo y2.exts B1 B2' d1 d2 (str y2.pay) W h1 h2 hyo)
      clear hx1 hx2 hy1 hy2 hl1 hl2
      obtain ⟨y, hyE⟩ : ∃ y, y = y2 := ⟨_, rfl⟩
      rw [← hyE] at HC1 HC2 HQ1 HQ2 HSM
      clear hyE hyo
      go_upto_region 6 with fail
      refine wp_region_pick (fun w' => Below wr.heap.size wr w') (by kernel_rfl) (by kernel_rfl) (Below.refl _ _) ⟨rfl, rfl, rfl, Nat.le_refl _, fun _ _ => rfl⟩ (fun pw hp hq => ?_)
      have hp4 : ∀ u, Below w.heap.size w (pw u) := fun u => HB.out.trans ((hp u).mono HB.out.size)
      have y0 : ∀ u, (pw u).cell? ⟨g1, o1 + k * 16, none⟩ = some (Value.int .i64 y.cls) := fun u => HC1.out _ (hp4 u) 0 _ rfl
      have y1 : ∀ u, (pw u).cell? ⟨g1, o1 + k * 16 + 1, none⟩ = some (Value.int .i64 y.lab) := fun u => HC1.out _ (hp4 u) 1 _ rfl
      have y2 : ∀ u, (pw u).cell? ⟨g1, o1 + k * 16 + 2, none⟩ = some (Value.int .i64 y.hops) := fun u => HC1.out _ (hp4 u) 2 _ rfl
      have y3 : ∀ u, (pw u).cell? ⟨g1, o1 + k * 16 + 3, none⟩ = some (Value.int .i64 y.nxt) := fun u => HC1.out _ (hp4 u) 3 _ rfl
      have y4 : ∀ u, (pw u).cell? ⟨g1, o1 + k * 16 + 4, none⟩ = some (Value.bool y.src.v6) := fun u => HC1.out _ (hp4 u) 4 _ rfl
      have y5 : ∀ u, (pw u).cell? ⟨g1, o1 + k * 16 + 5, none⟩ = some (Value.int .u64 (y.src.hi : Int)) := fun u => HC1.out _ (hp4 u) 5 _ rfl
      have y6 : ∀ u, (pw u).cell? ⟨g1, o1 + k * 16 + 6, none⟩ = some (Value.int .u64 (y.src.lo : Int)) := fun u => HC1.out _ (hp4 u) 6 _ rfl
      have y7 : ∀ u, (pw u).cell? ⟨g1, o1 + k * 16 + 7, none⟩ = some (Value.bool y.dst.v6) := fun u => HC1.out _ (hp4 u) 7 _ rfl
      have y8 : ∀ u, (pw u).cell? ⟨g1, o1 + k * 16 + 8, none⟩ = some (Value.int .u64 (y.dst.hi : Int)) := fun u => HC1.out _ (hp4 u) 8 _ rfl
      have y9 : ∀ u, (pw u).cell? ⟨g1, o1 + k * 16 + 9, none⟩ = some (Value.int .u64 (y.dst.lo : Int)) := fun u => HC1.out _ (hp4 u) 9 _ rfl
      have y10 : ∀ u, (pw u).cell? ⟨g1, o1 + k * 16 + 10, none⟩ = some (Value.slice B1 y.exts.length d1) := fun u => HC1.out _ (hp4 u) 10 _ rfl
      have y11 : ∀ u, (pw u).cell? ⟨g1, o1 + k * 16 + 11, none⟩ = some (Value.bool y.frg) := fun u => HC1.out _ (hp4 u) 11 _ rfl
      have y12 : ∀ u, (pw u).cell? ⟨g1, o1 + k * 16 + 12, none⟩ = some (Value.int .i64 y.id) := fun u => HC1.out _ (hp4 u) 12 _ rfl
      have y13 : ∀ u, (pw u).cell? ⟨g1, o1 + k * 16 + 13, none⟩ = some (Value.int .i64 y.off) := fun u => HC1.out _ (hp4 u) 13 _ rfl
      have y14 : ∀ u, (pw u).cell? ⟨g1, o1 + k * 16 + 14, none⟩ = some (Value.bool y.more) := fun u => HC1.out _ (hp4 u) 14 _ rfl
      have y15 : ∀ u, (pw u).cell? ⟨g1, o1 + k * 16 + 15, none⟩ = some (Value.string (str y.pay)) := fun u => HC1.out _ (hp4 u) 15 _ rfl
      have z0 : ∀ u, (pw u).cell? ⟨g2, o2 + k * 16, none⟩ = some (Value.int .i64 y.cls) := fun u => HC2.out _ (hp4 u) 0 _ rfl
      have z1 : ∀ u, (pw u).cell? ⟨g2, o2 + k * 16 + 1, none⟩ = some (Value.int .i64 y.lab) := fun u => HC2.out _ (hp4 u) 1 _ rfl
      have z2 : ∀ u, (pw u).cell? ⟨g2, o2 + k * 16 + 2, none⟩ = some (Value.int .i64 y.hops) := fun u => HC2.out _ (hp4 u) 2 _ rfl
      have z3 : ∀ u, (pw u).cell? ⟨g2, o2 + k * 16 + 3, none⟩ = some (Value.int .i64 y.nxt) := fun u => HC2.out _ (hp4 u) 3 _ rfl
      have z4 : ∀ u, (pw u).cell? ⟨g2, o2 + k * 16 + 4, none⟩ = some (Value.bool y.src.v6) := fun u => HC2.out _ (hp4 u) 4 _ rfl
      have z5 : ∀ u, (pw u).cell? ⟨g2, o2 + k * 16 + 5, none⟩ = some (Value.int .u64 (y.src.hi : Int)) := fun u => HC2.out _ (hp4 u) 5 _ rfl
      have z6 : ∀ u, (pw u).cell? ⟨g2, o2 + k * 16 + 6, none⟩ = some (Value.int .u64 (y.src.lo : Int)) := fun u => HC2.out _ (hp4 u) 6 _ rfl
      have z7 : ∀ u, (pw u).cell? ⟨g2, o2 + k * 16 + 7, none⟩ = some (Value.bool y.dst.v6) := fun u => HC2.out _ (hp4 u) 7 _ rfl
      have z8 : ∀ u, (pw u).cell? ⟨g2, o2 + k * 16 + 8, none⟩ = some (Value.int .u64 (y.dst.hi : Int)) := fun u => HC2.out _ (hp4 u) 8 _ rfl
      have z9 : ∀ u, (pw u).cell? ⟨g2, o2 + k * 16 + 9, none⟩ = some (Value.int .u64 (y.dst.lo : Int)) := fun u => HC2.out _ (hp4 u) 9 _ rfl
      have z10 : ∀ u, (pw u).cell? ⟨g2, o2 + k * 16 + 10, none⟩ = some (Value.slice B2' y.exts.length d2) := fun u => HC2.out _ (hp4 u) 10 _ rfl
      have z11 : ∀ u, (pw u).cell? ⟨g2, o2 + k * 16 + 11, none⟩ = some (Value.bool y.frg) := fun u => HC2.out _ (hp4 u) 11 _ rfl
      have z12 : ∀ u, (pw u).cell? ⟨g2, o2 + k * 16 + 12, none⟩ = some (Value.int .i64 y.id) := fun u => HC2.out _ (hp4 u) 12 _ rfl
      have z13 : ∀ u, (pw u).cell? ⟨g2, o2 + k * 16 + 13, none⟩ = some (Value.int .i64 y.off) := fun u => HC2.out _ (hp4 u) 13 _ rfl
      have z14 : ∀ u, (pw u).cell? ⟨g2, o2 + k * 16 + 14, none⟩ = some (Value.bool y.more) := fun u => HC2.out _ (hp4 u) 14 _ rfl
      have z15 : ∀ u, (pw u).cell? ⟨g2, o2 + k * 16 + 15, none⟩ = some (Value.string (str y.pay)) := fun u => HC2.out _ (hp4 u) 15 _ rfl
      have HSU := Lib.hid (fun u => HSM.out (pw u) (HQ1.out.kept (hp4 u)) (HQ2.out.kept (hp4 u)))
      have HP := Lib.hid hp
      have HQ := Lib.hid hq
      clear hp hq hp4
      repeat (go_big_quiet_step ((first | with_reducible exact Calls.pick_of HQ.out (fun W' hb => (HP.out _).trans (hb.mono (HP.out _).size)) (HSU.out _))))
      refine wpQuiet_nil ?_
      rintro _ ⟨u, rfl⟩
      have HB5 := Lib.hid (HB.out.trans ((HP.out u).mono HB.out.size))
      generalize pw u = w5 at *
      clear HP HQ HSU HB
      go_wp2_with fail
      go_roundw
      case rel => exact ⟨k + 1, by go_num, by omega, HB5⟩
      case measure => simp [intOf]; omega
    · obtain rfl : k = nn := by omega
      have dlt : decide ((k : Int) < (k : Int)) = false := by simp
      have nlt : ¬ (k : Int) < (k : Int) := by omega
      go_wp2_with fail
      go_ret
      exact ⟨rfl, HB.out⟩
end Go.Proofs.Ytjjldolafnfpoaa

/- Contract: the reference's mark. -/
import Derived.Test.YtcakdgfkepdpkaaLexMark
namespace Go.Proofs.Ytcakdgfkepdpkaa
open Go.ChangeShapes Go.WideShapes Go.ChangeAt Go.RowKit

/-- Block g holds the marks. -/
def MK (w : World) (g : Nat) : Prop := g < w.heap.size ∧ ∀ k, k < 17 → w.cell? ⟨g, k, none⟩ = some (.string (str (marks.getD k [])))
theorem MK.drewN {w : World} {g : Nat} (h : MK w g) (q : Nat) : MK (w.drewN q) g := h
theorem mk_new (w : World) : MK (w.alloc (.cells #[.string ⟨#[45, 62]⟩, .string ⟨#[60, 62]⟩, .string ⟨#[60, 61]⟩, .string ⟨#[40]⟩, .string ⟨#[41]⟩, .string ⟨#[91]⟩, .string ⟨#[93]⟩, .string ⟨#[123]⟩, .string ⟨#[125]⟩, .string ⟨#[44]⟩, .string ⟨#[59]⟩, .string ⟨#[33]⟩, .string ⟨#[61]⟩, .string ⟨#[60]⟩, .string ⟨#[62]⟩, .string ⟨#[38]⟩, .string ⟨#[43]⟩] 9)) w.heap.size := by
  refine ⟨(Array.getElem?_eq_some_iff.1 (heap_alloc_new w _)).1, fun k hk => ?_⟩
  have hh := heap_alloc_new w (.cells #[.string ⟨#[45, 62]⟩, .string ⟨#[60, 62]⟩, .string ⟨#[60, 61]⟩, .string ⟨#[40]⟩, .string ⟨#[41]⟩, .string ⟨#[91]⟩, .string ⟨#[93]⟩, .string ⟨#[123]⟩, .string ⟨#[125]⟩, .string ⟨#[44]⟩, .string ⟨#[59]⟩, .string ⟨#[33]⟩, .string ⟨#[61]⟩, .string ⟨#[60]⟩, .string ⟨#[62]⟩, .string ⟨#[38]⟩, .string ⟨#[43]⟩] 9)
  simp only [World.cell?, hh]
  match k, hk with
  | 0, _ => rfl
  | 1, _ => rfl
  | 2, _ => rfl
  | 3, _ => rfl
  | 4, _ => rfl
  | 5, _ => rfl
  | 6, _ => rfl
  | 7, _ => rfl
  | 8, _ => rfl
  | 9, _ => rfl
  | 10, _ => rfl
  | 11, _ => rfl
  | 12, _ => rfl
  | 13, _ => rfl
  | 14, _ => rfl
  | 15, _ => rfl
  | 16, _ => rfl
  | k + 17, h => exact absurd h (by omega)

theorem marks_get (k : Nat) (h : k < 17) : marks.getD k [] = marks[k]'h := by
  rw [List.getD_eq_getElem?_getD, List.getElem?_eq_getElem h]; rfl
theorem markOf_at (L : List UInt8) (k : Nat) (h : k < 17) (hp : (marks.getD k []).isPrefixOf L = true) (hn : ∀ j, j < k → (marks.getD j []).isPrefixOf L = false) : markOf L = marks.getD k [] := by
  have e : marks.find? (fun m => m.isPrefixOf L) = some (marks.getD k []) := by
    rw [List.find?_eq_some_iff_getElem]
    refine ⟨hp, k, h, (marks_get k h).symm, fun j hj => ?_⟩
    have := hn j hj
    rw [marks_get j (Nat.lt_trans hj h)] at this
    exact congrArg Bool.not this
  unfold markOf
  rw [e]; rfl
theorem markOf_none (L : List UInt8) (hn : ∀ j, j < 17 → (marks.getD j []).isPrefixOf L = false) : markOf L = [] := by
  have e : marks.find? (fun m => m.isPrefixOf L) = none := by
    rw [List.find?_eq_none]
    intro m hm
    obtain ⟨j, hj, rfl⟩ := List.getElem_of_mem hm
    have := hn j hj
    rw [marks_get j hj] at this
    rw [this]; decide
  unfold markOf
  rw [e]; rfl
theorem prefix_iff (m L : List UInt8) : m.isPrefixOf L = (decide (m.length ≤ L.length) && (L.take m.length == m)) := by
  rw [Bool.eq_iff_iff, List.isPrefixOf_iff_prefix, List.prefix_iff_eq_take]
  simp only [Bool.and_eq_true, decide_eq_true_eq, beq_iff_eq]
  constructor
  · intro h
    refine ⟨?_, h.symm⟩
    have := congrArg List.length h
    rw [List.length_take] at this
    omega
  · exact fun h => h.2.symm
theorem extract_list (s : ByteArray) (n : Nat) : (s.extract 0 n).toList = s.data.toList.take n := by
  rw [ByteArray.toList_eq, Lib.extract_data]
  simp

set_option maxRecDepth 20000 in
theorem rmark_any (s : ByteArray) (w : World) (_hs : s.size ≤ 4611686018427387903) :
    Calls Try.prog 35 #[.string s] w fun e w' => e = .returned (.string (str (markOf s.data.toList))) ∧ Below w.heap.size w w' := by
  have hm0 := mk_new w
  have HB0 : Below w.heap.size w (w.alloc (.cells #[.string ⟨#[45, 62]⟩, .string ⟨#[60, 62]⟩, .string ⟨#[60, 61]⟩, .string ⟨#[40]⟩, .string ⟨#[41]⟩, .string ⟨#[91]⟩, .string ⟨#[93]⟩, .string ⟨#[123]⟩, .string ⟨#[125]⟩, .string ⟨#[44]⟩, .string ⟨#[59]⟩, .string ⟨#[33]⟩, .string ⟨#[61]⟩, .string ⟨#[60]⟩, .string ⟨#[62]⟩, .string ⟨#[38]⟩, .string ⟨#[43]⟩] 9)) := (Below.refl _ w).alloc (Nat.le_refl _) _
  have hex := extract_list s
  have hll : s.data.toList.length = s.size := by simp
  obtain ⟨L, hL⟩ : ∃ L, s.data.toList = L := ⟨_, rfl⟩
  rw [hL] at hex hll ⊢
  have HEX := Lib.hid hex
  have HM0 := Lib.hid hm0
  clear hex hm0 hL
  go_enter Try.func35, Try.ntmps35
  go_wp2_with fail
  go_loopw [4] (fun i wr => ∃ k : Nat, k ≤ 17 ∧ i = .int .i64 k ∧ Hid (MK wr w.heap.size) ∧ Below w.heap.size w wr ∧ Hid (∀ j, j < k → (marks.getD j []).isPrefixOf L = false)) (fun i _ => 17 - (intOf i).toNat)
  case atStart => exact ⟨0, by omega, rfl, HM0.out, HB0, fun j hj => absurd hj (by omega)⟩
  case round =>
    clear HM0 HB0
    obtain ⟨k, hk, rfl, HM, HB, HN⟩ := hrel
    by_cases hlt : k < 17
    · have hc := HM.out.2 k hlt
      have hp := prefix_iff (marks.getD k []) L
      have hat := markOf_at L k hlt
      have hmsz := str_size (marks.getD k [])
      have hmli : (str (marks.getD k [])).toList = marks.getD k [] := (ByteArray.toList_eq _).trans (str_toList _)
      have hnx := HN.out
      generalize hmk : marks.getD k [] = mk at *
      generalize hms : str mk = m at *
      rw [← hmsz, hll] at hp
      have HEXM := HEX.out m.size
      have hki : (k : Int) < 17 := by omega
      have hki0 : (0 : Int) ≤ (k : Int) := by omega
      by_cases hle : m.size ≤ s.size
      · have hle2 : (m.size : Int) ≤ (s.size : Int) := by omega
        rw [show decide (m.size ≤ s.size) = true by simp; exact hle, Bool.true_and] at hp
        have hcmp : ((s.extract 0 m.size).toList == m.toList) = mk.isPrefixOf L := by rw [HEXM, hmli, hp]
        cases hb : mk.isPrefixOf L with
        | true =>
          rw [hb] at hcmp
          have HAT := Lib.hid (hat hb hnx)
          have HMS := Lib.hid hms
          clear hat hp hnx hmk HN HEXM hmli hb hmsz
          go_wp2_with fail
          go_quiet (fail)
          have hB2 := below_drewN HB nq
          have hc2 : (wr.drewN nq).cell? ⟨w.heap.size, k, none⟩ = some (.string m) := hc
          clear hc HB HM
          generalize wr.drewN nq = w2 at *
          go_wp2_with fail
          go_ret
          exact ⟨by rw [HAT.out, HMS.out]; rfl, hB2⟩
        | false =>
          rw [hb] at hcmp
          have HNX := Lib.hid (show ∀ j, j < k + 1 → (marks.getD j []).isPrefixOf L = false from fun j hj => by
            by_cases e : j = k
            · rw [e, hmk]; exact hb
            · exact hnx j (by omega))
          clear hat hp hnx hmk HN HEXM hmli hb hmsz hms
          go_wp2_with fail
          go_quiet (fail)
          have HB2 := Lib.hid (below_drewN HB nq)
          have HM2 := Lib.hid (HM.out.drewN nq)
          clear hc HB HM
          generalize wr.drewN nq = w2 at *
          go_wp2_with fail
          go_roundw
          case rel => exact ⟨k + 1, by omega, by go_num, HM2.out, HB2.out, HNX.out⟩
          case measure => simp [intOf]; omega
      · have hle2 : decide ((m.size : Int) ≤ (s.size : Int)) = false := by simp; omega
        rw [show decide (m.size ≤ s.size) = false by simp; omega, Bool.false_and] at hp
        have HNX := Lib.hid (show ∀ j, j < k + 1 → (marks.getD j []).isPrefixOf L = false from fun j hj => by
          by_cases e : j = k
          · rw [e, hmk]; exact hp
          · exact hnx j (by omega))
        clear hat hp hnx hmk HN HEXM hmli hmsz hms
        go_wp2_with fail
        go_quiet (fail)
        have HB2 := Lib.hid (below_drewN HB nq)
        have HM2 := Lib.hid (HM.out.drewN nq)
        clear hc HB HM
        generalize wr.drewN nq = w2 at *
        go_wp2_with fail
        go_roundw
        case rel => exact ⟨k + 1, by omega, by go_num, HM2.out, HB2.out, HNX.out⟩
        case measure => simp [intOf]; omega
    · obtain rfl : k = 17 := by omega
      have he := markOf_none L HN.out
      have HE := Lib.hid he
      clear he HN hlt hk
      go_wp2_with fail
      go_ret
      exact ⟨by rw [HE.out]; rfl, HB⟩
end Go.Proofs.Ytcakdgfkepdpkaa

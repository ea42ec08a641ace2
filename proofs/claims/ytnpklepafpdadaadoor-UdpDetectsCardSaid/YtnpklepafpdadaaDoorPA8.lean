/- Contracts of the functions, part 8: Addr, Addr2. -/
import Derived.Deep.WholeRow
import Derived.Deep.RegionWith
import Derived.Deep.RegionHeld3
import Derived.Test.YtnpklepafpdadaaDoorPA3
/- Contracts: the bytes of numbers and addresses, and the pseudo header, of layer 2 and its reference. -/
namespace Go.Proofs.YtnpklepafpdadaaDoor
open Go.ChangeShapes Go.WideShapes Go.ChangeAt Go.RowKit

theorem leL_append : ∀ (a b n : Nat), leL (a + b) n = leL a n ++ leL b (n / pw a)
  | 0, b, n => by simp [leL, pw]
  | a + 1, b, n => by
    rw [show a + 1 + b = (a + b) + 1 by omega]
    simp only [leL]
    rw [leL_append a b, List.cons_append, Nat.div_div_eq_div_mul, pw_succ, Nat.mul_comm]
theorem leL_mod : ∀ (a n m : Nat), n % pw a = m % pw a → leL a n = leL a m
  | 0, _, _, _ => rfl
  | a + 1, n, m, h => by
    rw [pw_succ, Nat.mul_comm, Nat.mod_mul, Nat.mod_mul] at h
    have h1 : n % 256 = m % 256 := by omega
    have h2 : n / 256 % pw a = m / 256 % pw a := by omega
    simp only [leL]
    rw [h1, leL_mod a _ _ h2]
/-- The reference's number in one byte more. -/
theorem be_succ (k n : Nat) : str [UInt8.ofNat (n / pw k % 256)] ++ str (leL k n).reverse = str (leL (k + 1) n).reverse := by
  rw [str_append, leL_snoc, List.reverse_append]; rfl

theorem rnum_any (n k : Nat) (w : World) (hn : n ≤ 9223372036854775807) (hk : k ≤ 16) :
    Calls Tryd.prog 42 #[.int .i64 n, .int .i64 k] w fun e w' => e = .returned (.string (str (leL k n).reverse)) ∧ Below w.heap.size w w' := by
  go_enter Tryd.func42, Tryd.ntmps42
  go_wp2_with fail
  go_loopw [0, 5, 6] (fun m t i wr => ∃ j q : Nat, j ≤ k ∧ i = .int .i64 j ∧ m = .int .i64 q ∧ q ≤ 9223372036854775807 ∧ q = n / pw j ∧ t = .string (str (leL j n).reverse) ∧ Below w.heap.size w wr) (fun _ _ i _ => k - (intOf i).toNat)
  case atStart => exact ⟨0, n, by omega, rfl, rfl, hn, by simp [pw], rfl, Below.refl _ _⟩
  case round =>
    obtain ⟨j, q, hj, rfl, rfl, hq, hqn, rfl, hb⟩ := hrel
    have hsz : (str (leL j n).reverse).size = j := by rw [str_size, List.length_reverse, leL_length]
    by_cases hlt : j < k
    · have hcv := fun W g => one_string W g ((q : Int) % 256) (by omega) (by omega)
      rw [show ((q : Int) % 256).toNat = q % 256 by omega] at hcv
      have hfin : str [UInt8.ofNat (q % 256)] ++ str (leL j n).reverse = str (leL (j + 1) n).reverse := by rw [hqn]; exact be_succ j n
      have hq2 : q / 256 = n / pw (j + 1) := by rw [hqn, Nat.div_div_eq_div_mul, pw_succ]
      have hcat : (9223372036854775807 < (str [UInt8.ofNat (q % 256)]).size + (str (leL j n).reverse).size) = False := by
        rw [hsz, str_size]; simp; omega
      have HF := Lib.hid hfin
      have HQ := Lib.hid hq2
      clear hfin hq2 hqn hsz
      generalize str (leL j n).reverse = S at *
      generalize hu : str [UInt8.ofNat (q % 256)] = U at *
      go_wp2_with fail
      go_roundw
      case rel => exact ⟨j + 1, q / 256, by omega, by go_num, by go_num, by omega, HQ.out, by rw [← HF.out], hb.alloc hb.size _⟩
      case measure => simp [intOf]; omega
    · obtain rfl : j = k := by omega
      go_wp2_with fail
      go_ret
      exact ⟨rfl, hb⟩

theorem ret_str {a b : ByteArray} (h : a = b) : Ending.returned (.string a) = .returned (.string b) := by rw [h]
theorem ret_bool {a b : Bool} (h : a = b) : Ending.returned (.bool a) = .returned (.bool b) := by rw [h]
theorem half_join (n : Nat) : str (leL 4 (n / 4294967296)).reverse ++ str (leL 4 (n % 4294967296)).reverse = str (leL 8 n).reverse := by
  have e : pw 4 = 4294967296 := by decide
  rw [str_append, ← List.reverse_append, show (8 : Nat) = 4 + 4 from rfl, leL_append 4 4 n, e, leL_mod 4 (n % 4294967296) n (by rw [e]; omega)]

theorem rhalf_any (n : Nat) (w : World) (h : n < 18446744073709551616) :
    Calls Tryd.prog 46 #[.int .u64 n] w fun e w' => e = .returned (.string (str (leL 8 n).reverse)) ∧ Below w.heap.size w w' := by
  have h1 := fun W => rnum_any (n / 4294967296) 4 W (by omega) (by omega)
  have h2 := fun W => rnum_any (n % 4294967296) 4 W (by omega) (by omega)
  have hj := half_join n
  have hcat : (9223372036854775807 < (str (leL 4 (n / 4294967296)).reverse).size + (str (leL 4 (n % 4294967296)).reverse).size) = False := by
    rw [str_size, str_size]; simp [leL_length]
  have e1 : ((n / 4294967296 : Nat) : Int) = (n : Int) / 4294967296 := by omega
  have e2 : ((n % 4294967296 : Nat) : Int) = (n : Int) % 4294967296 := by omega
  rw [e1] at h1
  rw [e2] at h2
  have HJ := Lib.hid hj
  have H1 := Lib.hid h1
  have H2 := Lib.hid h2
  clear hj h1 h2 e1 e2
  generalize str (leL 4 (n / 4294967296)).reverse = A at *
  generalize str (leL 4 (n % 4294967296)).reverse = B at *
  generalize str (leL 8 n).reverse = C at *
  go_enter Tryd.func46, Tryd.ntmps46
  go_wp2_with fail
  refine (H1.out _).mono ?_
  rintro e w1 ⟨rfl, hb1⟩
  go_wp2_with fail
  refine (H2.out _).mono ?_
  rintro e w2 ⟨rfl, hb2⟩
  go_wp2_with fail
  go_ret
  exact ⟨ret_str HJ.out, hb1.trans (hb2.mono hb1.size)⟩

/-- An address as a value. -/
def adv (v6 : Bool) (hi lo : Nat) : Value := .agg #[.bool v6, .int .u64 hi, .int .u64 lo]
/-- Is it valid? -/
def vadr (v6 : Bool) (hi lo : Nat) : Bool := v6 || (hi == 0 && decide (lo < 4294967296))

theorem valid_addr (v6 : Bool) (hi lo : Nat) (w : World) :
    Calls Tryd.prog 31 #[.agg #[.bool v6, .int .u64 hi, .int .u64 lo]] w fun e w' => e = .returned (.bool (vadr v6 hi lo)) ∧ Below w.heap.size w w' := by
  cases v6 with
  | true =>
    go_enter Tryd.func31, Tryd.ntmps31
    go_wp2_with fail
    go_ret
    exact ⟨rfl, (Below.refl _ _).alloc (Nat.le_refl _) _⟩
  | false =>
    by_cases h : hi = 0
    · subst h
      have hv : vadr false 0 lo = decide (lo < 4294967296) := by simp [vadr]
      by_cases hl : lo < 4294967296
      · have HV : Hid (vadr false 0 lo = true) := by show _ = _; rw [hv]; simpa using hl
        clear hv
        go_enter Tryd.func31, Tryd.ntmps31
        go_wp2_with fail
        go_ret
        exact ⟨ret_bool (by rw [HV.out]; simp; omega), (Below.refl _ _).alloc (Nat.le_refl _) _⟩
      · have HV : Hid (vadr false 0 lo = false) := by show _ = _; rw [hv]; simpa using hl
        have hd : decide ((lo : Int) < 4294967296) = false := by simp; omega
        clear hv
        go_enter Tryd.func31, Tryd.ntmps31
        go_wp2_with fail
        go_ret
        exact ⟨ret_bool HV.out.symm, (Below.refl _ _).alloc (Nat.le_refl _) _⟩
    · have hv : vadr false hi lo = false := by simp [vadr, h]
      have HV := Lib.hid hv
      have hd : ((hi : Int) == 0) = false := by simp; omega
      clear hv h
      go_enter Tryd.func31, Tryd.ntmps31
      go_wp2_with fail
      go_ret
      exact ⟨ret_bool HV.out.symm, (Below.refl _ _).alloc (Nat.le_refl _) _⟩

theorem rvalid_addr (v6 : Bool) (hi lo : Nat) (w : World) :
    Calls Tryd.prog 40 #[.agg #[.bool v6, .int .u64 hi, .int .u64 lo]] w fun e w' => e = .returned (.bool (vadr v6 hi lo)) ∧ Below w.heap.size w w' := by
  cases v6 with
  | true =>
    go_enter Tryd.func40, Tryd.ntmps40
    go_wp2_with fail
    go_ret
    exact ⟨rfl, (Below.refl _ _).alloc (Nat.le_refl _) _⟩
  | false =>
    by_cases h : hi = 0
    · subst h
      have hv : vadr false 0 lo = decide (lo < 4294967296) := by simp [vadr]
      by_cases hl : lo < 4294967296
      · have HV : Hid (vadr false 0 lo = true) := by show _ = _; rw [hv]; simpa using hl
        clear hv
        go_enter Tryd.func40, Tryd.ntmps40
        go_wp2_with fail
        go_ret
        exact ⟨ret_bool (by rw [HV.out]; simp; omega), (Below.refl _ _).alloc (Nat.le_refl _) _⟩
      · have HV : Hid (vadr false 0 lo = false) := by show _ = _; rw [hv]; simpa using hl
        have hd : decide ((lo : Int) < 4294967296) = false := by simp; omega
        clear hv
        go_enter Tryd.func40, Tryd.ntmps40
        go_wp2_with fail
        go_ret
        exact ⟨ret_bool HV.out.symm, (Below.refl _ _).alloc (Nat.le_refl _) _⟩
    · have hv : vadr false hi lo = false := by simp [vadr, h]
      have HV := Lib.hid hv
      have hd : ((hi : Int) == 0) = false := by simp; omega
      clear hv h
      go_enter Tryd.func40, Tryd.ntmps40
      go_wp2_with fail
      go_ret
      exact ⟨ret_bool HV.out.symm, (Below.refl _ _).alloc (Nat.le_refl _) _⟩
end Go.Proofs.YtnpklepafpdadaaDoor

/- Contracts: eightBytes, addressBytes of the program under its table of shifts; the reference's address. -/
namespace Go.Proofs.YtnpklepafpdadaaDoor
open Go.ChangeShapes Go.WideShapes Go.ChangeAt Go.RowKit

/-- The table of shifts. -/
def shArr : Array Value := #[.int .u64 56, .int .u64 48, .int .u64 40, .int .u64 32, .int .u64 24, .int .u64 16, .int .u64 8, .int .u64 0]
/-- The variable holds it. -/
def Sh (w : World) : Prop := ∃ t fr, w.heap[0]? = some (.cells shArr t fr)
theorem Sh.lt {w : World} (h : Sh w) : 0 < w.heap.size := by
  obtain ⟨t, fr, hg⟩ := h
  obtain ⟨hlt, _⟩ := Array.getElem?_eq_some_iff.1 hg
  exact hlt
theorem Sh.kept {w w' : World} (h : Sh w) (hb : Below w.heap.size w w') : Sh w' := by
  have hlt := h.lt
  obtain ⟨t, fr, hg⟩ := h
  exact ⟨t, fr, by rw [hb.block _ hlt]; exact hg⟩
theorem Sh.alloc {w : World} (h : Sh w) (o : Obj) : Sh (w.alloc o) := h.kept ((Below.refl _ _).alloc (Nat.le_refl _) _)
theorem Sh.drew {w : World} (h : Sh w) : Sh w.drew := h

theorem sh_at (k : Nat) (h : k < 8) (W : World) : (Instr.index 70 (.agg shArr) (.int .i64 (k : Int))).run Tryd.prog W = .ok (.int .u64 ((56 - 8 * k : Nat) : Int)) W := by
  have i0 : ∀ V, (Instr.index 70 (.agg shArr) (.int .i64 0)).run Tryd.prog V = .ok (.int .u64 56) V := fun _ => by kernel_rfl
  have i1 : ∀ V, (Instr.index 70 (.agg shArr) (.int .i64 1)).run Tryd.prog V = .ok (.int .u64 48) V := fun _ => by kernel_rfl
  have i2 : ∀ V, (Instr.index 70 (.agg shArr) (.int .i64 2)).run Tryd.prog V = .ok (.int .u64 40) V := fun _ => by kernel_rfl
  have i3 : ∀ V, (Instr.index 70 (.agg shArr) (.int .i64 3)).run Tryd.prog V = .ok (.int .u64 32) V := fun _ => by kernel_rfl
  have i4 : ∀ V, (Instr.index 70 (.agg shArr) (.int .i64 4)).run Tryd.prog V = .ok (.int .u64 24) V := fun _ => by kernel_rfl
  have i5 : ∀ V, (Instr.index 70 (.agg shArr) (.int .i64 5)).run Tryd.prog V = .ok (.int .u64 16) V := fun _ => by kernel_rfl
  have i6 : ∀ V, (Instr.index 70 (.agg shArr) (.int .i64 6)).run Tryd.prog V = .ok (.int .u64 8) V := fun _ => by kernel_rfl
  have i7 : ∀ V, (Instr.index 70 (.agg shArr) (.int .i64 7)).run Tryd.prog V = .ok (.int .u64 0) V := fun _ => by kernel_rfl
  have hk : k = 0 ∨ k = 1 ∨ k = 2 ∨ k = 3 ∨ k = 4 ∨ k = 5 ∨ k = 6 ∨ k = 7 := by omega
  rcases hk with rfl | rfl | rfl | rfl | rfl | rfl | rfl | rfl
  · exact i0 W
  · exact i1 W
  · exact i2 W
  · exact i3 W
  · exact i4 W
  · exact i5 W
  · exact i6 W
  · exact i7 W

theorem eightb_any (n : Nat) (w : World) (_hn : n < 18446744073709551616) (hsh : Sh w) :
    Calls Tryd.prog 45 #[.int .u64 n] w fun e w' => e = .returned (.string (str (leL 8 n).reverse)) ∧ Below w.heap.size w w' := by
  have h0 := hsh.lt
  obtain ⟨t, fr, hg⟩ := hsh
  have hix := sh_at
  have hsz : (Tryd.prog.info? 70).map (·.size) = some shArr.size := by kernel_rfl
  generalize shArr = S at *
  have HIX := Lib.hid hix
  have HG := Lib.hid (fun o => (heap_alloc_old (w := w) (o := o) (h := h0)).trans hg)
  have HSZ := Lib.hid hsz
  clear hix hg hsz
  go_enter Tryd.func45, Tryd.ntmps45
  go_wp2_with (refine wpList_load_row rfl 70 _ rfl 0 rfl t S fr _ (HG.out _) Tryd.underlying70 rfl HSZ.out ?_)
  go_loopw [7] (fun i wr => ∃ k : Nat, k ≤ 8 ∧ i = .int .i64 k ∧ wr.rowIs w.heap.size 69 8 (fun x => .int .u8 (if x < k then ((n / 2 ^ (56 - 8 * x) % 256 : Nat) : Int) else 0)) ∧ Below w.heap.size w wr) (fun i _ => 8 - (intOf i).toNat)
  case atStart =>
    refine ⟨0, by omega, rfl, ?_, (Below.refl _ _).alloc (Nat.le_refl _) _⟩
    refine World.rowIs.congr (World.rowIs_alloc w _ _ (fun _ => .int .u8 0) ?_) (fun i _ => by simp)
    intro i hi
    have hk : i = 0 ∨ i = 1 ∨ i = 2 ∨ i = 3 ∨ i = 4 ∨ i = 5 ∨ i = 6 ∨ i = 7 := by
      have : i < 8 := hi
      omega
    rcases hk with rfl | rfl | rfl | rfl | rfl | rfl | rfl | rfl <;> rfl
  case round =>
    obtain ⟨k, hk, rfl, hrow, hb⟩ := hrel
    by_cases hlt : k < 8
    · have hi := HIX.out k hlt
      have hc := hrow.cell hlt
      rw [if_neg (Nat.lt_irrefl k)] at hc
      have hf := hrow.frozen k
      have hq : 56 - 8 * k ≤ 56 := by omega
      generalize hqq : 56 - 8 * k = q at *
      have HQ := Lib.hid hqq
      clear hqq
      go_wp2_with fail
      go_roundw
      case rel =>
        refine ⟨k + 1, by omega, by go_num, (hrow.set k _).congr (fun x hx => ?_), hb.setCell (Nat.le_refl _) _⟩
        by_cases e : x = k
        · subst e
          rw [if_pos rfl, if_pos (by omega), HQ.out]
          simp
        · rw [if_neg e]
          by_cases e2 : x < k
          · rw [if_pos e2, if_pos (by omega)]
          · rw [if_neg e2, if_neg (by omega)]
      case measure => simp [intOf]; omega
    · have hd : decide ((k : Int) < 8) = false := by simp; omega
      obtain rfl : k = 8 := by omega
      have hl8 : (leL 8 n).reverse.length = 8 := by rw [List.length_reverse, leL_length]
      have hbs : BS wr w.heap.size (.slice (some ⟨w.heap.size, 0, none⟩) (leL 8 n).reverse.length 8) (leL 8 n).reverse := by
        refine ⟨some ⟨w.heap.size, 0, none⟩, 8, rfl, by omega, fun _ => ⟨w.heap.size, 0, rfl, Nat.le_refl _, hrow.lt, fun x hx => ?_⟩⟩
        have hx8 : x < 8 := by omega
        rw [Nat.zero_add]
        refine ⟨?_, hrow.frozen x⟩
        rw [hrow.cell hx8, if_pos hx8, List.getElem_reverse, leL_get, UInt8.toNat_ofNat', show (leL 8 n).length - 1 - x = 7 - x by rw [leL_length], show (2 : Nat) ^ (56 - 8 * x) = 256 ^ (7 - x) by rw [show (256 : Nat) = 2 ^ 8 from rfl, ← Nat.pow_mul, show 8 * (7 - x) = 56 - 8 * x by omega]]
        simp
      have hcv := bs_string hbs
      rw [hl8] at hcv
      have HB := Lib.hid hb
      clear hb hbs hrow hl8
      go_wp2_with fail
      go_ret
      exact ⟨rfl, HB.out⟩

/-- The bytes of an address. -/
def adr (v6 : Bool) (hi lo : Nat) : List UInt8 := if v6 then (leL 8 hi).reverse ++ (leL 8 lo).reverse else (leL 4 lo).reverse
theorem adr_length (v6 : Bool) (hi lo : Nat) : (adr v6 hi lo).length = if v6 then 16 else 4 := by
  unfold adr; split <;> simp [leL_length]

theorem adr_tail (lo : Nat) : (str (leL 8 lo).reverse).extract 4 (str (leL 8 lo).reverse).size = str (leL 4 lo).reverse := by
  apply ByteArray.ext
  apply Array.ext'
  rw [Lib.extract_data, str_size, List.length_reverse, leL_length, str_toList, str_toList, show (8 : Nat) = 4 + 4 from rfl, leL_append, List.reverse_append]
  rw [List.drop_append_of_le_length (by simp [leL_length]), List.drop_eq_nil_of_le (by simp [leL_length]), List.nil_append, List.take_of_length_le (by simp [leL_length])]

theorem addrb_any (v6 : Bool) (hi lo : Nat) (w : World) (hhi : hi < 18446744073709551616) (hlo : lo < 18446744073709551616) (hsh : Sh w) :
    Calls Tryd.prog 32 #[.agg #[.bool v6, .int .u64 hi, .int .u64 lo]] w fun e w' => e = .returned (.string (str (adr v6 hi lo))) ∧ Below w.heap.size w w' := by
  have h1 := fun W h => eightb_any hi W hhi h
  have h2 := fun W h => eightb_any lo W hlo h
  have H1 := Lib.hid h1
  have H2 := Lib.hid h2
  clear h1 h2
  cases v6 with
  | true =>
    have hcat : (9223372036854775807 < (str (leL 8 hi).reverse).size + (str (leL 8 lo).reverse).size) = False := by
      rw [str_size, str_size]; simp [leL_length]
    have HF : Hid (str (leL 8 hi).reverse ++ str (leL 8 lo).reverse = str (adr true hi lo)) := str_append _ _
    generalize str (leL 8 hi).reverse = A at *
    generalize str (leL 8 lo).reverse = B at *
    generalize str (adr true hi lo) = R at *
    go_enter Tryd.func32, Tryd.ntmps32
    go_wp2_with fail
    obtain ⟨W0, hW⟩ : ∃ W0, W0 = w.alloc (.cells #[.bool true, .int .u64 hi, .int .u64 lo] 24) := ⟨_, rfl⟩
    rw [← hW]
    have c1 : W0.cell? ⟨w.heap.size, 1, none⟩ = some (.int .u64 hi) := by rw [hW, World.cell?_alloc_at _ _ _ _ rfl]; rfl
    have c2 : W0.cell? ⟨w.heap.size, 2, none⟩ = some (.int .u64 lo) := by rw [hW, World.cell?_alloc_at _ _ _ _ rfl]; rfl
    have hs0 : Sh W0 := by rw [hW]; exact hsh.alloc _
    have hB0 : Below w.heap.size w W0 := by rw [hW]; exact (Below.refl _ _).alloc (Nat.le_refl _) _
    have hg0 : w.heap.size < W0.heap.size := by rw [hW]; simp
    clear hW
    go_region_held3 (fun w' => w'.cell? ⟨w.heap.size, 1, none⟩ = some (.int .u64 hi) ∧ w'.cell? ⟨w.heap.size, 2, none⟩ = some (.int .u64 lo)) (go_keep) (first
      | (go_at_call_of 45 (Value.int .u64 (hi : Int)); refine (H1.out _ ?_).mono ?_; exact hs0; rintro e w2 ⟨rfl, hb2d⟩; have hb2 : Below W0.heap.size W0 w2 := ⟨hb2d.os, hb2d.tape, hb2d.output, hb2d.size, hb2d.block⟩; have hs2 : Sh w2 := hs0.kept hb2; have d1 := (kept_cells hb2 w.heap.size 1 hg0).trans c1; have d2 := (kept_cells hb2 w.heap.size 2 hg0).trans c2)
      | (go_at_call_of 45 (Value.int .u64 (lo : Int)); refine (H2.out _ ?_).mono ?_; exact hs2; rintro e w3 ⟨rfl, hb3⟩; have d3 := (kept_cells hb3 w.heap.size 1 (Nat.lt_of_lt_of_le hg0 hb2.size)).trans d1; have d4 := (kept_cells hb3 w.heap.size 2 (Nat.lt_of_lt_of_le hg0 hb2.size)).trans d2))
    go_wp2_with fail
    go_ret
    refine ⟨ret_str HF.out, ?_⟩
    have k2 := hB0.trans (hb2.mono hB0.size)
    exact k2.trans (hb3.mono k2.size)
  | false =>
    have hx := adr_tail lo
    have hsz : (str (leL 8 lo).reverse).size = 8 := by rw [str_size, List.length_reverse, leL_length]
    have hle : 4 ≤ (str (leL 8 lo).reverse).size := by omega
    have HF : Hid (str (leL 4 lo).reverse = str (adr false hi lo)) := rfl
    have HX := Lib.hid hx
    clear hx hsz
    generalize str (leL 8 lo).reverse = B at *
    generalize str (leL 4 lo).reverse = C at *
    generalize str (adr false hi lo) = R at *
    go_enter Tryd.func32, Tryd.ntmps32
    go_wp2_with fail
    refine (H2.out _ ?_).mono ?_
    exact hsh.alloc _
    rintro e w2 ⟨rfl, hb2⟩
    go_wp2_with fail
    go_ret
    exact ⟨ret_str (by rw [HX.out, HF.out]), ((Below.refl _ _).alloc (Nat.le_refl _) _).trans (hb2.mono (by simp))⟩

theorem raddr_any (v6 : Bool) (hi lo : Nat) (w : World) (hhi : hi < 18446744073709551616) (hlo : lo < 18446744073709551616) (hv : vadr v6 hi lo = true) :
    Calls Tryd.prog 41 #[.agg #[.bool v6, .int .u64 hi, .int .u64 lo]] w fun e w' => e = .returned (.string (str (adr v6 hi lo))) ∧ Below w.heap.size w w' := by
  cases v6 with
  | true =>
    have h1 := fun W => rhalf_any hi W hhi
    have h2 := fun W => rhalf_any lo W hlo
    have H1 := Lib.hid h1
    have H2 := Lib.hid h2
    clear h1 h2 hv
    have hcat : (9223372036854775807 < (str (leL 8 hi).reverse).size + (str (leL 8 lo).reverse).size) = False := by
      rw [str_size, str_size]; simp [leL_length]
    have HF : Hid (str (leL 8 hi).reverse ++ str (leL 8 lo).reverse = str (adr true hi lo)) := str_append _ _
    generalize str (leL 8 hi).reverse = A at *
    generalize str (leL 8 lo).reverse = B at *
    generalize str (adr true hi lo) = R at *
    go_enter Tryd.func41, Tryd.ntmps41
    go_wp2_with fail
    obtain ⟨W0, hW⟩ : ∃ W0, W0 = w.alloc (.cells #[.bool true, .int .u64 hi, .int .u64 lo] 24) := ⟨_, rfl⟩
    rw [← hW]
    have c1 : W0.cell? ⟨w.heap.size, 1, none⟩ = some (.int .u64 hi) := by rw [hW, World.cell?_alloc_at _ _ _ _ rfl]; rfl
    have c2 : W0.cell? ⟨w.heap.size, 2, none⟩ = some (.int .u64 lo) := by rw [hW, World.cell?_alloc_at _ _ _ _ rfl]; rfl
    have hB0 : Below w.heap.size w W0 := by rw [hW]; exact (Below.refl _ _).alloc (Nat.le_refl _) _
    have hg0 : w.heap.size < W0.heap.size := by rw [hW]; simp
    clear hW
    go_region_held3 (fun w' => w'.cell? ⟨w.heap.size, 1, none⟩ = some (.int .u64 hi) ∧ w'.cell? ⟨w.heap.size, 2, none⟩ = some (.int .u64 lo)) (go_keep) (first
      | (go_at_call_of 46 (Value.int .u64 (hi : Int)); refine (H1.out _).mono ?_; rintro e w2 ⟨rfl, hb2d⟩; have hb2 : Below W0.heap.size W0 w2 := ⟨hb2d.os, hb2d.tape, hb2d.output, hb2d.size, hb2d.block⟩; have d1 := (kept_cells hb2 w.heap.size 1 hg0).trans c1; have d2 := (kept_cells hb2 w.heap.size 2 hg0).trans c2)
      | (go_at_call_of 46 (Value.int .u64 (lo : Int)); refine (H2.out _).mono ?_; rintro e w3 ⟨rfl, hb3⟩; have d3 := (kept_cells hb3 w.heap.size 1 (Nat.lt_of_lt_of_le hg0 hb2.size)).trans d1; have d4 := (kept_cells hb3 w.heap.size 2 (Nat.lt_of_lt_of_le hg0 hb2.size)).trans d2))
    go_wp2_with fail
    go_ret
    refine ⟨ret_str HF.out, ?_⟩
    have k2 := hB0.trans (hb2.mono hB0.size)
    exact k2.trans (hb3.mono k2.size)
  | false =>
    have hl : lo < 4294967296 := by
      simp [vadr] at hv
      exact hv.2
    have h2 := fun W => rnum_any lo 4 W (by omega) (by omega)
    have HF : Hid (str (leL 4 lo).reverse = str (adr false hi lo)) := rfl
    have H2 := Lib.hid h2
    clear h2 hv
    generalize str (leL 4 lo).reverse = C at *
    generalize str (adr false hi lo) = R at *
    go_enter Tryd.func41, Tryd.ntmps41
    go_wp2_with fail
    refine (H2.out _).mono ?_
    rintro e w2 ⟨rfl, hb2⟩
    go_wp2_with fail
    go_ret
    exact ⟨ret_str HF.out, ((Below.refl _ _).alloc (Nat.le_refl _) _).trans (hb2.mono (by simp))⟩
end Go.Proofs.YtnpklepafpdadaaDoor

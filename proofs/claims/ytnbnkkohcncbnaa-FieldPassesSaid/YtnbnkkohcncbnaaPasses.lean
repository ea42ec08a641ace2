/- FieldPasses holds: for every string and every list of sizes the law that what a reader returns, written again, is the part that it passed returns true and leaves memory as it was. No condition. -/
import Derived.Test.YtnbnkkohcncbnaaRefReader
import Derived.Deep.RegionHeld3
namespace Go.Proofs.Ytnbnkkohcncbnaa.fieldPasses
open Go.ChangeShapes Go.WideShapes Go.ChangeAt Go.RowKit
open Go.ChangeMaps (open_string shut_string)
set_option linter.unusedVariables false

theorem own : ownKnob Try.prog.godebug = none := by kernel_rfl
theorem laidOut : laidOutB Try.prog = true := by kernel_rfl

/-- Bytes that came in: number Z i in cell i. -/
def InBytes (w : World) (A : Option Addr) (len : Nat) (Z : Nat → Int) : Prop :=
  0 < len → ∃ g o, A = some ⟨g, o, none⟩ ∧ g < w.heap.size ∧ ∀ i, i < len → w.cell? ⟨g, o + i, none⟩ = some (.int .u8 (Z i)) ∧ 0 ≤ Z i ∧ Z i < 256

/-- O is what was passed, l is what is left. -/
def Pas (s O : ByteArray) (l : List UInt8) : Prop := ∃ m, m ≤ s.size ∧ O = str (s.data.toList.take m) ∧ l = s.data.toList.drop m

theorem len_of (s : ByteArray) : s.data.toList.length = s.size := by simp
theorem pas_zero (s : ByteArray) : Pas s ⟨#[]⟩ s.data.toList := ⟨0, Nat.zero_le _, rfl, rfl⟩
theorem pas_step {s O : ByteArray} {l : List UInt8} {k : Nat} (h : Pas s O l) (hk : k ≤ l.length) : Pas s (O ++ str (l.take k)) (l.drop k) := by
  obtain ⟨m, hm, rfl, rfl⟩ := h
  have hl := len_of s
  rw [List.length_drop] at hk
  refine ⟨m + k, by omega, ?_, by rw [List.drop_drop]⟩
  rw [str_append, List.take_add]
theorem pas_size {s O : ByteArray} {l : List UInt8} (h : Pas s O l) : O.size + l.length = s.size := by
  obtain ⟨m, hm, rfl, rfl⟩ := h
  have hl := len_of s
  rw [str_size, List.length_take, List.length_drop]
  omega
theorem pas_ext {s O : ByteArray} {l : List UInt8} (h : Pas s O l) : s.extract 0 O.size = O := by
  obtain ⟨m, hm, rfl, rfl⟩ := h
  have hl := len_of s
  rw [str_size, List.length_take, Nat.min_eq_left (by omega)]
  have := str_take s.data.toList m
  rwa [str_of] at this
theorem pas_all {s O : ByteArray} {l : List UInt8} (h : Pas s O l) : O ++ str l = s := by
  obtain ⟨m, hm, rfl, rfl⟩ := h
  rw [str_append, List.take_append_drop, str_of]

theorem long (s : ByteArray) (A : Option Addr) (len cap : Nat) (w : World) (hs : s.size ≤ maxLen) (hl : len ≤ maxLen) (h : 200 < s.size ∨ 60 < len) :
    Calls Try.prog 7 #[.string s, .slice A len cap] w fun e w' => e = .returned (.bool true) ∧ Below w.heap.size w w' := by
  unfold maxLen at hs hl
  by_cases h1 : 200 < s.size
  · go_enter Try.func7, Try.ntmps7
    go_wp2_with fail
    refine (awake_any _).mono ?_
    rintro e v5 ⟨rfl, hb5⟩
    go_wp2_with fail
    go_ret
    exact ⟨rfl, hb5⟩
  · have h2 : 60 < len := by omega
    have hd : decide (200 < (s.size : Int)) = false := by simp; omega
    go_enter Try.func7, Try.ntmps7
    go_wp2_with fail
    refine (awake_any _).mono ?_
    rintro e v5 ⟨rfl, hb5⟩
    go_wp2_with fail
    go_ret
    exact ⟨rfl, hb5⟩

/-- A call Int(n) that finds its bytes, or gets or has an error. -/
theorem int_two (p : Nat) (l : List UInt8) (err n : Int) (h1 : 1 ≤ n) (h7 : n ≤ 7) (hm : l.length ≤ 200) :
    (err = 0 ∧ n ≤ l.length ∧ ∀ W, Rd W p l err → Calls Try.prog 19 #[.pointer (some ⟨p, 0, none⟩), .int .i64 n] W fun e w' => e = .returned (.int .i64 (num (l.take n.toNat) : Nat)) ∧ Rd w' p (l.drop n.toNat) 0 ∧ W.grownBy w' (some p)) ∨
    (∃ err', err' ≠ 0 ∧ ∀ W, Rd W p l err → Calls Try.prog 19 #[.pointer (some ⟨p, 0, none⟩), .int .i64 n] W fun e w' => e = .returned (.int .i64 0) ∧ Rd w' p l err' ∧ W.grownBy w' (some p)) := by
  by_cases he : err ≠ 0
  · exact .inr ⟨err, he, fun W h => int_err p l err n W h he⟩
  · obtain rfl : err = 0 := by omega
    by_cases hs : (l.length : Int) < n
    · exact .inr ⟨1, by decide, fun W h => int_short p l n W h (by omega) h1 h7 hs⟩
    · refine .inl ⟨rfl, by omega, fun W h => ?_⟩
      obtain ⟨k, rfl⟩ := Int.eq_ofNat_of_zero_le (show 0 ≤ n by omega)
      exact int_ok p l k W h (by omega) (by omega) (by omega) (by omega)

theorem put_back (l : List UInt8) (n : Int) (h1 : 1 ≤ n) (h7 : n ≤ 7) (hl : n ≤ l.length) (W : World) :
    Calls Try.prog 8 #[.int .i64 (num (l.take n.toNat) : Nat), .int .i64 n] W fun e w' => e = .returned (.string (str (l.take n.toNat))) ∧ Below W.heap.size W w' := by
  have hlen : (l.take n.toNat).length = n.toNat := by rw [List.length_take]; omega
  have hlt : num (l.take n.toNat) < pw n.toNat := by
    have := num_lt (l.take n.toNat)
    rwa [hlen] at this
  have h7' := pw_le7 (k := n.toNat) (by omega)
  have h := put_yes (num (l.take n.toNat) : Nat) n W h1 h7 (by omega) (by omega) (by simpa using hlt)
  rw [Int.toNat_natCast] at h
  have e := leL_reverse_num (l.take n.toNat)
  rw [hlen] at e
  rwa [e] at h

/-- A call Take(n): in any case what it returns was passed. -/
theorem take_two (p : Nat) (s O : ByteArray) (l : List UInt8) (err n : Int) (h0 : 0 ≤ n) (hm : l.length ≤ 200) (hp : Pas s O l) :
    ∃ (t l' : List UInt8) (err' : Int), t.length ≤ 200 ∧ Pas s (O ++ str t) l' ∧ ∀ W, Rd W p l err → Calls Try.prog 21 #[.pointer (some ⟨p, 0, none⟩), .int .i64 n] W fun e w' => e = .returned (.string (str t)) ∧ Rd w' p l' err' ∧ W.grownBy w' (some p) := by
  have hpz : Pas s (O ++ str []) l := by
    have := pas_step (k := 0) hp (Nat.zero_le _)
    simpa using this
  by_cases he : err ≠ 0
  · exact ⟨[], l, err, by simp, hpz, fun W h => take_err p l err n W h he⟩
  · obtain rfl : err = 0 := by omega
    by_cases hs : (l.length : Int) < n
    · exact ⟨[], l, 1, by simp, hpz, fun W h => take_short p l n W h (by omega) hs⟩
    · obtain ⟨k, rfl⟩ := Int.eq_ofNat_of_zero_le h0
      exact ⟨l.take k, l.drop k, 0, by rw [List.length_take]; omega, pas_step hp (by omega), fun W h => take_ok p l k W h (by omega) (by omega)⟩

set_option maxHeartbeats 4000000 in
theorem core (s : ByteArray) (A : Option Addr) (len cap : Nat) (Z : Nat → Int) (w : World) (hs : s.size ≤ 200) (hl : len ≤ 60) (hin : InBytes w A len Z) :
    Calls Try.prog 7 #[.string s, .slice A len cap] w fun e w' => e = .returned (.bool true) ∧ Below w.heap.size w w' := by
  have hd1 : decide (200 < (s.size : Int)) = false := by simp; omega
  have hd2 : decide (60 < (len : Int)) = false := by simp; omega
  go_enter Try.func7, Try.ntmps7
  go_wp2_with fail
  refine (new_any s _).mono ?_
  rintro e w1 ⟨p, rfl, hp, hrd1, hb1⟩
  have hpas := pas_zero s
  clear hd1 hd2
  go_wp2_with fail
  go_loopw [6, 7] (fun O i wr => ∃ x : Nat, ∃ o l err, x ≤ len ∧ i = .int .i64 x ∧ O = .string o ∧ Pas s o l ∧ Rd wr p l err ∧ Below w.heap.size w wr) (fun _ i _ => len - (intOf i).toNat)
  case atStart => exact ⟨0, _, _, 0, by omega, rfl, rfl, hpas, hrd1, hb1⟩
  case round =>
    obtain ⟨x, o, l, err, hx, rfl, rfl, hpa, hrd, hbw⟩ := hrel
    have hsz := pas_size hpa
    by_cases hlt : x < len
    · obtain ⟨g, of, rfl, hg, hcs⟩ := hin (by omega)
      have hZ : wr.cell? ⟨g, of + x, none⟩ = some (.int .u8 (Z x)) := by rw [hbw.cell (p := ⟨g, of + x, none⟩) hg]; exact (hcs x hlt).1
      have hZ0 := (hcs x hlt).2.1
      have hZ1 := (hcs x hlt).2.2
      clear hcs
      generalize Z x = z at *
      have hol : o.size ≤ 200 := by omega
      have hll : l.length ≤ 200 := by omega
      have HP := Lib.hid hpa
      clear hpa hsz
      by_cases hn : 1 ≤ z % 9 ∧ z % 9 ≤ 7
      · obtain ⟨hn1, hn7⟩ := hn
        rcases int_two p l err (z % 9) hn1 hn7 hll with ⟨rfl, hle, hc⟩ | ⟨err', hne, hc⟩
        · have hput := fun W => put_back l (z % 9) hn1 hn7 hle W
          have hpa' := pas_step (k := (z % 9).toNat) HP.out (by omega)
          have hts : (str (l.take (z % 9).toNat)).size ≤ 200 := by rw [str_size, List.length_take]; omega
          generalize num (l.take (z % 9).toNat) = nm at *
          generalize l.take (z % 9).toNat = t at *
          generalize l.drop (z % 9).toNat = l' at *
          have hcat : (9223372036854775807 < o.size + (str t).size) = False := by simp; omega
          generalize hO : o ++ str t = O' at *
          have HC := Lib.hid hc
          have HU := Lib.hid hput
          have hsz' := pas_size hpa'
          have d1 : ((s.size : Int) - (l'.length : Int) != (O'.size : Int)) = false := by simp only [bne_eq_false_iff_eq]; omega
          have hex := pas_ext hpa'
          have hos' : O'.size ≤ s.size := by omega
          have hol' : O'.size ≤ 200 := by omega
          have hll' : l'.length ≤ 200 := by omega
          have HP' := Lib.hid hpa'
          clear hpa' hsz'
          clear hc hput hts
          obtain ⟨err', he0⟩ : ∃ err' : Int, err' = 0 := ⟨0, rfl⟩
          have HE := Lib.hid he0
          clear he0
          go_wp2_with fail
          refine (HC.out _ hrd).mono ?_
          rintro e w2 ⟨rfl, hrd2, hg2⟩
          have hbw2 := below_only hbw hg2 hp hbw.size
          clear hg2
          go_wp2_with fail
          refine (err_any p _ 0 _ hrd2).mono ?_
          rintro e w5 ⟨rfl, rfl⟩
          go_wp2_with fail
          refine (HU.out _).mono ?_
          rintro e w3 ⟨rfl, hb3⟩
          have hrd3 : Rd w3 p l' err' := by rw [HE.out]; exact hrd2.kept hb3
          have hbw3 := hbw2.trans (hb3.mono hbw2.size)
          clear hb3 hrd2 hbw2
          go_wp2_with fail
          refine (left_any p l' err' _ hrd3).mono ?_
          rintro e w5 ⟨rfl, rfl⟩
          go_wp2_with fail
          go_roundw
          case rel => exact ⟨x + 1, O', l', err', by omega, by go_num, rfl, HP'.out, hrd3, hbw3⟩
          case measure => simp [intOf]; omega
        · obtain ⟨O', hO'⟩ : ∃ O', O' = o := ⟨o, rfl⟩
          subst hO'
          obtain ⟨l', hl'⟩ : ∃ l', l' = l := ⟨l, rfl⟩
          subst hl'
          have hpa' := HP.out
          have hb0 : (err' == 0) = false := by simpa using hne
          have HC := Lib.hid hc
          have hsz' := pas_size hpa'
          have d1 : ((s.size : Int) - (l'.length : Int) != (O'.size : Int)) = false := by simp only [bne_eq_false_iff_eq]; omega
          have hex := pas_ext hpa'
          have hos' : O'.size ≤ s.size := by omega
          have hol' : O'.size ≤ 200 := by omega
          have hll' : l'.length ≤ 200 := by omega
          have HP' := Lib.hid hpa'
          clear hpa' hsz'
          clear hc hne
          go_wp2_with fail
          refine (HC.out _ hrd).mono ?_
          rintro e w3 ⟨rfl, hrd3, hg3⟩
          have hbw3 := below_only hbw hg3 hp hbw.size
          clear hg3
          go_wp2_with fail
          refine (err_any p _ err' _ hrd3).mono ?_
          rintro e w5 ⟨rfl, rfl⟩
          go_wp2_with fail
          refine (left_any p l' err' _ hrd3).mono ?_
          rintro e w5 ⟨rfl, rfl⟩
          go_wp2_with fail
          go_roundw
          case rel => exact ⟨x + 1, O', l', err', by omega, by go_num, rfl, HP'.out, hrd3, hbw3⟩
          case measure => simp [intOf]; omega
      · obtain ⟨t, l', err', ht, hpa', hc⟩ := take_two p s o l err (z % 9) (by omega) hll HP.out
        have hts : (str t).size ≤ 200 := by rw [str_size]; exact ht
        have hcat : (9223372036854775807 < o.size + (str t).size) = False := by simp; omega
        generalize hO : o ++ str t = O' at *
        have HC := Lib.hid hc
        have hsz' := pas_size hpa'
        have d1 : ((s.size : Int) - (l'.length : Int) != (O'.size : Int)) = false := by simp only [bne_eq_false_iff_eq]; omega
        have hex := pas_ext hpa'
        have hos' : O'.size ≤ s.size := by omega
        have hol' : O'.size ≤ 200 := by omega
        have hll' : l'.length ≤ 200 := by omega
        have HP' := Lib.hid hpa'
        clear hpa' hsz'
        clear hc hts ht
        by_cases hz1 : 1 ≤ z % 9
        · have hz7 : 7 < z % 9 := by omega
          have hz7' : decide (z % 9 ≤ 7) = false := by simp; omega
          clear hn
          go_wp2_with fail
          refine (HC.out _ hrd).mono ?_
          rintro e w3 ⟨rfl, hrd3, hg3⟩
          have hbw3 := below_only hbw hg3 hp hbw.size
          clear hg3
          go_wp2_with fail
          refine (left_any p l' err' _ hrd3).mono ?_
          rintro e w5 ⟨rfl, rfl⟩
          go_wp2_with fail
          go_roundw
          case rel => exact ⟨x + 1, O', l', err', by omega, by go_num, rfl, HP'.out, hrd3, hbw3⟩
          case measure => simp [intOf]; omega
        · have hz1' : decide (1 ≤ z % 9) = false := by simp; omega
          have hz0 : z % 9 < 1 := by omega
          clear hn
          go_wp2_with fail
          refine (HC.out _ hrd).mono ?_
          rintro e w3 ⟨rfl, hrd3, hg3⟩
          have hbw3 := below_only hbw hg3 hp hbw.size
          clear hg3
          go_wp2_with fail
          refine (left_any p l' err' _ hrd3).mono ?_
          rintro e w5 ⟨rfl, rfl⟩
          go_wp2_with fail
          go_roundw
          case rel => exact ⟨x + 1, O', l', err', by omega, by go_num, rfl, HP'.out, hrd3, hbw3⟩
          case measure => simp [intOf]; omega
    · have hll : l.length ≤ 200 := by omega
      have hol : o.size ≤ 200 := by omega
      have hall := pas_all hpa
      clear hpa hsz
      by_cases he : err = 0
      · subst he
        have hc := rest_ok p l
        have hcat : (9223372036854775807 < o.size + (str l).size) = False := by rw [str_size]; simp; omega
        have HC := Lib.hid hc
        clear hc
        go_wp2_with fail
        refine (HC.out _ hrd (by omega)).mono ?_
        rintro e w3 ⟨rfl, hrd3, hg3⟩
        have hbw3 := below_only hbw hg3 hp hbw.size
        clear hg3
        go_wp2_with fail
        refine (err_any p _ 0 _ hrd3).mono ?_
        rintro e w5 ⟨rfl, rfl⟩
        go_wp2_with fail
        refine (awake_any _).mono ?_
        rintro e w5 ⟨rfl, hb5⟩
        go_wp2_with fail
        go_ret
        exact ⟨rfl, hbw3.trans (hb5.mono hbw3.size)⟩
      · have hc := rest_err p l err
        have hb0 : (err != 0) = true := by simpa using he
        have hcat : (9223372036854775807 < o.size + (str []).size) = False := by rw [str_size]; simp; omega
        have HC := Lib.hid hc
        have HE := Lib.hid he
        clear hc he
        go_wp2_with fail
        refine (HC.out _ hrd HE.out).mono ?_
        rintro e w3 ⟨rfl, hrd3, hg3⟩
        have hbw3 := below_only hbw hg3 hp hbw.size
        clear hg3
        go_wp2_with fail
        refine (err_any p _ err _ hrd3).mono ?_
        rintro e w5 ⟨rfl, rfl⟩
        go_wp2_with fail
        refine (awake_any _).mono ?_
        rintro e w5 ⟨rfl, hb5⟩
        go_wp2_with fail
        go_ret
        exact ⟨rfl, hbw3.trans (hb5.mono hbw3.size)⟩

theorem walk (s : ByteArray) (A : Option Addr) (len cap : Nat) (Z : Nat → Int) (w : World) (w0 : s.size ≤ maxLen) (w1 : InBytes w A len Z) (w2 : len ≤ maxLen) :
    Calls Try.prog 7 #[.string s, .slice A len cap] w fun e w' => e = .returned (.bool true) ∧ Below w.heap.size w w' := by
  by_cases hl : 200 < s.size ∨ 60 < len
  · exact long s A len cap w w0 w2 hl
  · exact core s A len cap Z w (by omega) (by omega) w1

theorem cellsByte : Try.prog.cellsOf 5 = 1 := by kernel_rfl

theorem in_bytes {H : Type} {enc : TypeId × Value → H} {W : World} {base : Nat} {sp : Nat → Bool} {held : Bool} {A : Option Addr} {len cap : Nat} {d : DataW H} {p : List MemPlace}
    (h : DataW.Trod enc Try.prog W base sp held 47 (.slice A len cap) d p) : ∃ Z, InBytes W A len Z ∧ len ≤ maxLen := by
  obtain ⟨fuel, hf⟩ := h
  rcases open_ints Try.underlying47 Try.underlying5 cellsByte hf with ⟨hcs, _⟩ | ⟨a, l, c, zs, hcs, _, hl, hm, hzl, _, hcell, hwf⟩
  · simp [Value.cells] at hcs
    obtain ⟨rfl, rfl, rfl⟩ := hcs
    exact ⟨fun _ => 0, fun h => absurd h (by omega), by simp [maxLen]⟩
  · simp [Value.cells] at hcs
    obtain ⟨rfl, rfl, rfl⟩ := hcs
    have hlz : len ≤ zs.length := by rw [hzl]; split <;> omega
    refine ⟨fun i => zs.getD i 0, fun hp => ?_, by omega⟩
    obtain ⟨b, off, spot⟩ := a
    have h0 := hcell 0 (by omega)
    have hspot : spot = none := by simpa [Addr.add] using World.cell?_spot h0
    subst hspot
    have hlt := World.block_lt_of_cell? W _ h0
    refine ⟨b, off, rfl, by simpa [Addr.add] using hlt, fun i hi => ?_⟩
    have h1 := hcell i (by omega)
    rw [add_flat] at h1
    have hz := hwf (zs.getD i 0) (by rw [List.getD, List.getElem?_eq_getElem (by omega)]; exact List.getElem_mem _)
    have h' : IntKind.u8.min ≤ zs.getD i 0 ∧ zs.getD i 0 ≤ IntKind.u8.max := by simpa [Lit.wf] using hz
    exact ⟨h1, Int.le_trans (by decide) h'.1, Int.lt_of_le_of_lt h'.2 (by decide)⟩

set_option maxRecDepth 100000 in
theorem lifted (os : Os) (started : os.Started) (H : Type) (enc : TypeId × Value → H) :
    ReturnsInHanded {} Try.checked os 7 .any (Rows.fieldPassesSpec.pre6 enc Try.prog Try.f7 Rows.fieldPassesRow.domain false) (Rows.fieldPassesSpec.post enc Try.prog Try.f7 false true false false) := by
  refine returnsInHanded_of_change (C := Try.checked) own started (by kernel_rfl) Try.func7
    (ChangeSpec.witness6 (enc := enc) (C := Try.checked) false ⟨#[], #[.string ⟨#[]⟩, .slice none 0 0], []⟩ 8 (by kernel_rfl) (by kernel_rfl) (by kernel_rfl) (by kernel_rfl)) ?_
  intro W base args ds gs before hval0 hW hcnd _
  have hval : ∀ (j : Nat) t v, Try.f7.params[j]? = some t → args[j]? = some v → Value.okWide Try.prog W .any base t v := hval0
  have hW' := hW
  obtain ⟨p, q, hA0, hV, rfl, hfz, hnd⟩ := hW
  have hA : DataW.TrodAll enc Try.prog W 0 (fun _ => true) true Try.f7.params.toList args.toList ds p := hA0
  rw [Try.params7] at hA hval
  obtain ⟨v0, vs0, d0, ds0, p0, q0, hargs, rfl, rfl, h0, r0⟩ := trodAll_cons hA
  obtain ⟨v1, vs1, d1, ds1, p1, q1, rfl, rfl, rfl, h1, r1⟩ := trodAll_cons r0
  obtain ⟨rfl, rfl, rfl⟩ := trodAll_nil r1
  obtain rfl : args = #[v0, v1] := by cases args; simp_all
  obtain ⟨rfl, rfl⟩ := trodVars_none hV
  obtain ⟨a0, rfl, rfl, rfl, w0⟩ := open_string Try.underlying9 (hval 0 9 v0 rfl rfl) h0
  obtain ⟨a1, len1, cap1, rfl⟩ := okWide_slice Try.underlying47 (hval 1 47 v1 rfl rfl)
  have k1 := h1
  have lt1 : ∀ x ∈ p1, x.block < W.heap.size := by obtain ⟨m, hm⟩ := k1; exact DataW.trod_lt m _ _ _ hm
  obtain ⟨Z, w1, w2⟩ := in_bytes h1
  clear hA0 hval0
  refine (walk a0 a1 len1 cap1 Z W w0 w1 w2).mono fun e W' ⟨he, bel⟩ => ?_
  subst he
  exact ⟨_, rfl, _, _, _, [], _, [], hW', trodAll_mk1 (shut_bool Try.underlying4 _), (trodAll_cons_mk (shut_string Try.underlying9 w0) (trodAll_cons_mk (Below.trod laidOut (by kernel_rfl) (of_decide_eq_true (by kernel_rfl)) k1 bel lt1) trodAll_mk0)), rfl, bel.frame _, fun h => by cases h⟩

theorem over : Rows.fieldPassesRow.holds Try.pinned (OpenSpec.ofChange Rows.fieldPassesSpec) :=
  OpenClaim.holds_of_wide 7 Try.f7 rfl rfl rfl rfl rfl rfl rfl ⟨rfl, rfl, rfl, rfl, rfl⟩ rfl rfl rfl rfl rfl (by kernel_rfl) Try.func7 (by kernel_rfl)
    (of_decide_eq_true (by kernel_rfl)) (by unfold Func.isWrapper; first | (rw [if_pos (by decide +kernel)]; kernel_rfl) | (rw [if_neg (by decide +kernel)]; exact ⟨rfl, rfl⟩))
    (fun os started H enc _ => lifted os started H enc)

theorem proved : Rows.FieldPassesSaid := over
#print axioms proved
end Go.Proofs.Ytnbnkkohcncbnaa.fieldPasses

/- Contracts of the functions, part 4: EthLay, EthPU, EthRMac, EthPMac, EthPEnc, AdrNext, EthPPM, EthSame, EthProg, Awk10. -/
import Derived.Shelf.LaysM
import Derived.Shelf.LaysC
import Derived.Shelf.Strconv.ToError
import Derived.Shelf.Strconv.ToErrorRange
import Derived.Shelf.Strings.Split
import Derived.Test.YtpfhljidjnagkaaDoorProg
import Derived.Lib.Strings
import Derived.Lib.Walk
import Derived.Lib.ConvBytes
import Derived.Lib.AtoiAllMem
import Derived.Lib.Hide
import Derived.Laws.Strings3
import Derived.Laws.Closers25
import Derived.Laws.Closers25b
import Derived.WalkKit
import Derived.BigCall
import Derived.BigGuard
import Derived.Deep.QuietTactic
import Derived.Lib.AtoiErrMem
import Derived.Test.YtpfhljidjnagkaaDoorEM2
import Derived.Test.YtpfhljidjnagkaaDoorEM3
/- Contracts of strings.SplitN and strconv.toError laid at this seat, in plain words. -/
namespace Go.Proofs.YtpfhljidjnagkaaDoor
open Go.Shelf Go.RowKit Go.Lib
def laysC245_ren : Go.Shelf.Ren := ⟨fun | 245 => 41 | 279 => 48 | 280 => 49 | 281 => 50 | 282 => 51 | 316 => 56 | 171 => 58 | 205 => 57 | 243 => 64 | 246 => 67 | 283 => 68 | 284 => 69 | 285 => 70 | 286 => 71 | 129 => 73 | 317 => 72 | 318 => 74 | 319 => 75 | 320 => 76 | 337 => 77 | 338 => 78 | n => n, fun | 9 => 9 | 3 => 3 | 75 => 53 | 167 => 70 | 4 => 4 | 168 => 72 | 210 => 80 | 37 => 48 | 0 => 0 | 127 => 82 | 145 => 85 | 143 => 83 | 2 => 2 | 171 => 94 | 53 => 23 | 5 => 5 | 173 => 97 | 212 => 100 | 51 => 90 | 20 => 20 | 213 => 101 | 46 => 49 | 232 => 104 | 233 => 105 | 80 => 44 | n => n, fun | 15 => 1 | 16 => 2 | 17 => 6 | 18 => 7 | 19 => 8 | n => n⟩
theorem laysC245 : Go.Proofs.LaysC.n245 Tryd.prog laysC245_ren := {
  mixed := by kernel_rfl
  f129 := Tryd.func73.trans (congrArg some (by kernel_rfl))
  f171 := Tryd.func58.trans (congrArg some (by kernel_rfl))
  f205 := Tryd.func57.trans (congrArg some (by kernel_rfl))
  f243 := Tryd.func64.trans (congrArg some (by kernel_rfl))
  f245 := Tryd.func41.trans (congrArg some (by kernel_rfl))
  f246 := Tryd.func67.trans (congrArg some (by kernel_rfl))
  f279 := Tryd.func48.trans (congrArg some (by kernel_rfl))
  f280 := Tryd.func49.trans (congrArg some (by kernel_rfl))
  f281 := Tryd.func50.trans (congrArg some (by kernel_rfl))
  f282 := Tryd.func51.trans (congrArg some (by kernel_rfl))
  f283 := Tryd.func68.trans (congrArg some (by kernel_rfl))
  f284 := Tryd.func69.trans (congrArg some (by kernel_rfl))
  f285 := Tryd.func70.trans (congrArg some (by kernel_rfl))
  f286 := Tryd.func71.trans (congrArg some (by kernel_rfl))
  f316 := Tryd.func56.trans (congrArg some (by kernel_rfl))
  f317 := Tryd.func72.trans (congrArg some (by kernel_rfl))
  f318 := Tryd.func74.trans (congrArg some (by kernel_rfl))
  f319 := Tryd.func75.trans (congrArg some (by kernel_rfl))
  f320 := Tryd.func76.trans (congrArg some (by kernel_rfl))
  f337 := Tryd.func77.trans (congrArg some (by kernel_rfl))
  f338 := Tryd.func78.trans (congrArg some (by kernel_rfl))
  t0 := Tryd.underlying0
  a0 := Tryd.isAgg0
  z0 := Tryd.sizeOf0
  v0 := Tryd.zeroValue0
  t2 := Tryd.underlying2
  a2 := Tryd.isAgg2
  z2 := Tryd.sizeOf2
  v2 := Tryd.zeroValue2
  t3 := Tryd.underlying3
  a3 := Tryd.isAgg3
  z3 := Tryd.sizeOf3
  v3 := Tryd.zeroValue3
  t4 := Tryd.underlying4
  a4 := Tryd.isAgg4
  z4 := Tryd.sizeOf4
  v4 := Tryd.zeroValue4
  t5 := Tryd.underlying5
  a5 := Tryd.isAgg5
  z5 := Tryd.sizeOf5
  v5 := Tryd.zeroValue5
  t9 := Tryd.underlying9
  a9 := Tryd.isAgg9
  z9 := Tryd.sizeOf9
  v9 := Tryd.zeroValue9
  t20 := Tryd.underlying20
  a20 := Tryd.isAgg20
  z20 := Tryd.sizeOf20
  v20 := Tryd.zeroValue20
  t37 := Tryd.underlying48
  a37 := Tryd.isAgg48
  z37 := Tryd.sizeOf48
  v37 := Tryd.zeroValue48
  t46 := Tryd.underlying49
  a46 := Tryd.isAgg49
  z46 := Tryd.sizeOf49
  v46 := Tryd.zeroValue49
  t51 := Tryd.underlying90
  a51 := Tryd.isAgg90
  z51 := Tryd.sizeOf90
  v51 := Tryd.zeroValue90
  t53 := Tryd.underlying23
  a53 := Tryd.isAgg23
  z53 := Tryd.sizeOf23
  v53 := Tryd.zeroValue23
  t75 := Tryd.underlying53
  a75 := Tryd.isAgg53
  z75 := Tryd.sizeOf53
  v75 := Tryd.zeroValue53
  t127 := Tryd.underlying82
  a127 := Tryd.isAgg82
  z127 := Tryd.sizeOf82
  v127 := Tryd.zeroValue82
  t143 := Tryd.underlying83
  a143 := Tryd.isAgg83
  z143 := Tryd.sizeOf83
  v143 := Tryd.zeroValue83
  t145 := Tryd.underlying85
  a145 := Tryd.isAgg85
  z145 := Tryd.sizeOf85
  v145 := Tryd.zeroValue85
  t167 := Tryd.underlying70
  a167 := Tryd.isAgg70
  z167 := Tryd.sizeOf70
  v167 := Tryd.zeroValue70
  t168 := Tryd.underlying72
  a168 := Tryd.isAgg72
  z168 := Tryd.sizeOf72
  v168 := Tryd.zeroValue72
  t171 := Tryd.underlying94
  a171 := Tryd.isAgg94
  z171 := Tryd.sizeOf94
  v171 := Tryd.zeroValue94
  t173 := Tryd.underlying97
  a173 := Tryd.isAgg97
  z173 := Tryd.sizeOf97
  v173 := Tryd.zeroValue97
  t210 := Tryd.underlying80
  a210 := Tryd.isAgg80
  z210 := Tryd.sizeOf80
  v210 := Tryd.zeroValue80
  t212 := Tryd.underlying100
  a212 := Tryd.isAgg100
  z212 := Tryd.sizeOf100
  v212 := Tryd.zeroValue100
  t213 := Tryd.underlying101
  a213 := Tryd.isAgg101
  z213 := Tryd.sizeOf101
  t232 := Tryd.underlying104
  a232 := Tryd.isAgg104
  z232 := Tryd.sizeOf104
  v232 := Tryd.zeroValue104
  t233 := Tryd.underlying105
  a233 := Tryd.isAgg105
  z233 := Tryd.sizeOf105
  v233 := Tryd.zeroValue105
  g15 := by kernel_rfl
  g16 := by kernel_rfl
  g17 := by kernel_rfl
  g18 := by kernel_rfl
  g19 := by kernel_rfl
  t80 := Tryd.underlying44
  a80 := Tryd.isAgg44
  z80 := Tryd.sizeOf44
  v80 := Tryd.zeroValue44
  i0 := by kernel_rfl
  i2 := by kernel_rfl
  i3 := by kernel_rfl
  i4 := by kernel_rfl
  i5 := by kernel_rfl
  i9 := by kernel_rfl
  i20 := by kernel_rfl
  i37 := by kernel_rfl
  i46 := by kernel_rfl
  i51 := by kernel_rfl
  i53 := by kernel_rfl
  i75 := by kernel_rfl
  i80 := by kernel_rfl
  i127 := by kernel_rfl
  i143 := by kernel_rfl
  i145 := by kernel_rfl
  i167 := by kernel_rfl
  i168 := by kernel_rfl
  i171 := by kernel_rfl
  i173 := by kernel_rfl
  i210 := by kernel_rfl
  i212 := by kernel_rfl
  i232 := by kernel_rfl
  i233 := by kernel_rfl
  m15 := by kernel_rfl
  m16 := by kernel_rfl
  m17 := by kernel_rfl
  m18 := by kernel_rfl
  m19 := by kernel_rfl
  c0 := by kernel_rfl
  c2 := by kernel_rfl
  c3 := by kernel_rfl
  c4 := by kernel_rfl
  c5 := by kernel_rfl
  c9 := by kernel_rfl
  c20 := by kernel_rfl
  c37 := by kernel_rfl
  c46 := by kernel_rfl
  c51 := by kernel_rfl
  c53 := by kernel_rfl
  c75 := by kernel_rfl
  c80 := by kernel_rfl
  c127 := by kernel_rfl
  c143 := by kernel_rfl
  c145 := by kernel_rfl
  c167 := by kernel_rfl
  c168 := by kernel_rfl
  c171 := by kernel_rfl
  c173 := by kernel_rfl
  c210 := by kernel_rfl
  c212 := by kernel_rfl
  c213 := by kernel_rfl
  c232 := by kernel_rfl
  c233 := by kernel_rfl }
theorem lib_strconv_toError_syntax (fn s : ByteArray) (base bits : Int) (ev : Value) (w : World) (hlim : s.size ≤ 281474976710656) (hv : w.cell? ⟨1, 0, none⟩ = some ev) (hev : ev = .nilIface ∨ ∃ te pe, ev = .iface te pe) :
    Calls Tryd.prog 41 #[.string fn, .string s, .int .i64 base, .int .i64 bits, .iface 70 (.int .i64 2)] w fun e w' => ∃ N, e = .returned (.iface 72 (.pointer (some ⟨N, 0, none⟩))) ∧ w.heap.size ≤ N ∧ w'.heap[N]? = some (.cells #[.string fn, .string s, ev] 80 (0, 0)) ∧ Below w.heap.size w w' := Any.strconv_toError_syntax laysC245 fn s base bits ev w hlim hv hev
theorem lib_strconv_toError_range (fn s : ByteArray) (base bits : Int) (ev : Value) (w : World) (hlim : s.size ≤ 281474976710656) (hv : w.cell? ⟨2, 0, none⟩ = some ev) (hev : ev = .nilIface ∨ ∃ te pe, ev = .iface te pe) :
    Calls Tryd.prog 41 #[.string fn, .string s, .int .i64 base, .int .i64 bits, .iface 70 (.int .i64 1)] w fun e w' => ∃ N, e = .returned (.iface 72 (.pointer (some ⟨N, 0, none⟩))) ∧ w.heap.size ≤ N ∧ w'.heap[N]? = some (.cells #[.string fn, .string s, ev] 80 (0, 0)) ∧ Below w.heap.size w w' := Any.strconv_toError_range laysC245 fn s base bits ev w hlim hv hev
def lays147_ren : Go.Shelf.Ren := ⟨fun | 147 => 28 | 221 => 39 | 268 => 43 | 138 => 44 | 143 => 45 | 195 => 52 | 197 => 53 | 218 => 54 | 219 => 55 | 260 => 59 | 217 => 60 | 225 => 61 | 224 => 62 | 267 => 63 | 266 => 65 | 314 => 66 | n => n, fun | 9 => 9 | 3 => 3 | 31 => 50 | 4 => 4 | 0 => 0 | 105 => 75 | 21 => 21 | 5 => 5 | 46 => 49 | 119 => 86 | 139 => 89 | 138 => 88 | 146 => 91 | 51 => 90 | n => n, fun | 1 => 3 | 3 => 4 | 4 => 5 | n => n⟩
theorem lays147 : Go.Proofs.Lays.n147 Tryd.prog lays147_ren := {
  mixed := by kernel_rfl
  f138 := Tryd.func44.trans (congrArg some (by kernel_rfl))
  f143 := Tryd.func45.trans (congrArg some (by kernel_rfl))
  f147 := Tryd.func28.trans (congrArg some (by kernel_rfl))
  f195 := Tryd.func52.trans (congrArg some (by kernel_rfl))
  f197 := Tryd.func53.trans (congrArg some (by kernel_rfl))
  f217 := Tryd.func60.trans (congrArg some (by kernel_rfl))
  f218 := Tryd.func54.trans (congrArg some (by kernel_rfl))
  f219 := Tryd.func55.trans (congrArg some (by kernel_rfl))
  f221 := Tryd.func39.trans (congrArg some (by kernel_rfl))
  f224 := Tryd.func62.trans (congrArg some (by kernel_rfl))
  f225 := Tryd.func61.trans (congrArg some (by kernel_rfl))
  f260 := Tryd.func59.trans (congrArg some (by kernel_rfl))
  f266 := Tryd.func65.trans (congrArg some (by kernel_rfl))
  f267 := Tryd.func63.trans (congrArg some (by kernel_rfl))
  f268 := Tryd.func43.trans (congrArg some (by kernel_rfl))
  f314 := Tryd.func66.trans (congrArg some (by kernel_rfl))
  t0 := Tryd.underlying0
  a0 := Tryd.isAgg0
  z0 := Tryd.sizeOf0
  v0 := Tryd.zeroValue0
  t3 := Tryd.underlying3
  a3 := Tryd.isAgg3
  z3 := Tryd.sizeOf3
  v3 := Tryd.zeroValue3
  t4 := Tryd.underlying4
  a4 := Tryd.isAgg4
  z4 := Tryd.sizeOf4
  v4 := Tryd.zeroValue4
  t5 := Tryd.underlying5
  a5 := Tryd.isAgg5
  z5 := Tryd.sizeOf5
  v5 := Tryd.zeroValue5
  t9 := Tryd.underlying9
  a9 := Tryd.isAgg9
  z9 := Tryd.sizeOf9
  v9 := Tryd.zeroValue9
  t21 := Tryd.underlying21
  a21 := Tryd.isAgg21
  z21 := Tryd.sizeOf21
  v21 := Tryd.zeroValue21
  t31 := Tryd.underlying50
  a31 := Tryd.isAgg50
  z31 := Tryd.sizeOf50
  v31 := Tryd.zeroValue50
  t46 := Tryd.underlying49
  a46 := Tryd.isAgg49
  z46 := Tryd.sizeOf49
  v46 := Tryd.zeroValue49
  t51 := Tryd.underlying90
  a51 := Tryd.isAgg90
  z51 := Tryd.sizeOf90
  v51 := Tryd.zeroValue90
  t105 := Tryd.underlying75
  a105 := Tryd.isAgg75
  z105 := Tryd.sizeOf75
  v105 := Tryd.zeroValue75
  t119 := Tryd.underlying86
  a119 := Tryd.isAgg86
  z119 := Tryd.sizeOf86
  t138 := Tryd.underlying88
  a138 := Tryd.isAgg88
  z138 := Tryd.sizeOf88
  v138 := Tryd.zeroValue88
  t139 := Tryd.underlying89
  a139 := Tryd.isAgg89
  z139 := Tryd.sizeOf89
  v139 := Tryd.zeroValue89
  t146 := Tryd.underlying91
  a146 := Tryd.isAgg91
  z146 := Tryd.sizeOf91
  v146 := Tryd.zeroValue91
  g1 := by kernel_rfl
  g3 := by kernel_rfl
  g4 := by kernel_rfl }
theorem lib_strings_SplitN (s sep : ByteArray) (n : Nat) (m : Int) (w : World) (hs : s.size < 4294967281) (hm : w.cell? ⟨3, 0, none⟩ = some (.int .i64 m)) (h1 : 1 ≤ sep.size) (hn : 1 ≤ n) (hn63 : n ≤ 9223372036854775807) :
    Calls Tryd.prog 28 #[.string s, .string sep, .int .i64 n] w fun e w' =>
      e = .returned (.slice (some ⟨w.heap.size, 0, none⟩) (Lib.splitB sep 0 (min n (s.size + 1) - 1) s).length (min n (s.size + 1))) ∧ w' = w.alloc (.cells (Lib.cellsOf (Lib.splitB sep 0 (min n (s.size + 1) - 1) s) (min n (s.size + 1))) 9) := Any.strings_SplitN lays147 (by kernel_rfl) s sep n m w hs hm h1 hn hn63
end Go.Proofs.YtpfhljidjnagkaaDoor

/- strconv.ParseUint to the base 16 with 8 bits, at every text: the number, or an error that is not nil. -/
namespace Go.Proofs.YtpfhljidjnagkaaDoor
open Go.ChangeShapes Go.WideShapes Go.ChangeAt Go.RowKit
set_option linter.unusedVariables false

theorem bits_or_low (c : UInt8) : bits .or .u8 (c.toNat : Int) 32 = (lowN c : Int) := by
  have h : ∀ y : Fin 256, bits .or .u8 (y.val : Int) 32 = ((y.val ||| 32 : Nat) : Int) := by decide +kernel
  exact h ⟨c.toNat, u8_lt c⟩
theorem lowN_lt (c : UInt8) : lowN c < 256 := by
  have h : ∀ y : Fin 256, (y.val ||| 32) < 256 := by decide +kernel
  exact h ⟨c.toNat, u8_lt c⟩
theorem plower (c : UInt8) (w : World) :
    Calls Tryd.prog 46 #[.int .u8 (c.toNat : Int)] w fun e w' => e = .returned (.int .u8 (lowN c : Int)) ∧ w = w' := by
  have hb := bits_or_low c
  go_enter Tryd.func46, Tryd.ntmps46
  go_wp2_with fail
  go_ret
  exact ⟨rfl, rfl⟩
/-- What ParseUint of the inner package answers: the number and no error, or an error of two kinds. -/
def PUP (t : ByteArray) (w : World) (e : Ending) (w' : World) : Prop :=
  Below w.heap.size w w' ∧ ((∃ n : Nat, pUint t.data.toList = some n ∧ n ≤ 255 ∧ e = .returned (.tuple #[.int .u64 (n : Int), .nilIface])) ∨ (pUint t.data.toList = none ∧ ∃ n k : Int, (k = 1 ∨ k = 2) ∧ e = .returned (.tuple #[.int .u64 n, .iface 70 (.int .i64 k)])))
set_option maxHeartbeats 32000000 in
set_option maxRecDepth 100000 in
theorem piuint_any (t : ByteArray) (hmax : t.size ≤ 1000000000) (w : World) :
    Calls Tryd.prog 40 #[.string t, .int .i64 16, .int .i64 8] w (PUP t w) := by
  by_cases hne : t.size = 0
  · have hemp : t.toList.isEmpty = true := by
      rw [← decide_eq_emptyBytes]
      exact decide_eq_true (by
        have h0 : t.data = #[] := Array.eq_empty_of_size_eq_zero hne
        cases t; simp only at h0; rw [h0]; rfl)
    have HN := Lib.hid (show pUint t.data.toList = none by
      have h0 : t.data.toList = [] := List.eq_nil_of_length_eq_zero (by rw [Array.length_toList]; exact hne)
      rw [h0]; rfl)
    clear hne
    go_enter Tryd.func40, Tryd.ntmps40
    go_wp2_with fail
    go_ret2
    exact ⟨Below.refl _ _, .inr ⟨HN.out, 0, 2, .inr rfl, rfl⟩⟩
  have hemp : t.toList.isEmpty = false := by
    rw [← decide_eq_emptyBytes]
    exact decide_eq_false (fun h => hne (by rw [h]; rfl))
  have hcv := Lib.run_convert_string_bytes (P := Tryd.prog) w 9 48 5 t (u := .string) Tryd.underlying9 Tryd.underlying48 Tryd.underlying5
  have hB : ∀ j, j < t.size → (Lib.bytesWorld w 5 t).cell? ⟨w.heap.size, j, none⟩ = some (.int .u8 (t.data.toList.getD j 0).toNat) := fun j hj => Lib.bytesWorld_cell w 5 t j hj
  have HBW := Lib.hid (show Below w.heap.size w (Lib.bytesWorld w 5 t) from Lib.bytesWorld_below _ _ _)
  obtain ⟨W1, hW1⟩ : ∃ W1, W1 = Lib.bytesWorld w 5 t := ⟨_, rfl⟩
  rw [← hW1] at hcv hB HBW
  clear hW1
  obtain ⟨bs, hL⟩ : ∃ bs, bs = t.data.toList := ⟨_, rfl⟩
  have hLn : bs.length = t.size := by rw [hL, Lib.size_eq]
  have HPS := Lib.hid (show pUint t.data.toList = pU 0 bs by unfold pUint; rw [if_neg (fun h => hne (by rw [← hLn, hL, h]; rfl)), ← hL])
  rw [← hL] at hB
  have HLL := Lib.hid hLn
  clear hL hne hLn
  go_enter Tryd.func40, Tryd.ntmps40
  go_wp2_with fail
  go_loopw [12, 13, 101] (fun vu vn vi wr => ∃ (k acc : Nat) (a : Int), vu = .bool false ∧ vn = .int .u64 a ∧ vi = .int .i64 k ∧ k ≤ t.size ∧ 0 ≤ a ∧ a ≤ 255 ∧ wr = W1 ∧ Hid (a = (acc : Int) ∧ pU 0 bs = pU acc (bs.drop k)))
    (fun _ _ vi _ => t.size - (intOf vi).toNat)
  case atStart => exact ⟨0, 0, 0, rfl, rfl, rfl, by omega, by omega, by omega, rfl, Lib.hid ⟨rfl, rfl⟩⟩
  case round =>
    obtain ⟨k, acc, a, rfl, rfl, rfl, hk, ha0, ha255, rfl, HD⟩ := hrel
    have HAC := Lib.hid HD.out.1
    by_cases hkn : k < t.size
    · have hc := hB k hkn
      have hkl : k < bs.length := by have := HLL.out; omega
      have hdrop : bs.drop k = bs[k]'hkl :: bs.drop (k + 1) := List.drop_eq_getElem_cons hkl
      have hget : bs.getD k 0 = bs[k]'hkl := by simp [List.getD, List.getElem?_eq_getElem hkl]
      have hdec := HD.out.2
      rw [hdrop] at hdec
      rw [hget] at hc
      generalize bs[k]'hkl = c at hc hdec
      have hc256 : c.toNat < 256 := c.toNat_lt
      obtain ⟨l1, l2, l3⟩ := low_hex c
      have hhl := hexI_lt c
      have HLW := Lib.hid (fun (W : World) => plower c W)
      have hlow := lowN_lt c
      rw [pU] at hdec
      obtain ⟨lo, hlo⟩ : ∃ lo, lo = lowN c := ⟨_, rfl⟩
      rw [← hlo] at l2 l3 HLW hlow
      obtain ⟨z, hz⟩ : ∃ z, z = c.toNat := ⟨_, rfl⟩
      rw [← hz] at hc hc256 l1 l2 l3 HLW
      generalize hexI c = hx at *
      have hki : (k : Int) < (t.size : Int) := by omega
      have hk0 : (0 : Int) ≤ (k : Int) := by omega
      have icut : a < 1152921504606846976 := by omega
      clear hB hdrop hget hlo hz hkl HD
      by_cases hdig : 48 ≤ z ∧ z ≤ 57
      · have hx1 := l1 hdig
        have d48 : (48 : Int) ≤ (z : Int) := by omega
        have d57 : (z : Int) ≤ 57 := by omega
        have e95 : ((z : Int) == 95) = false := by rw [beq_eq_false_iff_ne]; omega
        have n95 : ¬ (z : Int) = 95 := by omega
        have i16 : ¬ (16 : Int) ≤ ((z : Int) - 48) := by omega
        have HX := Lib.hid (show (hx.toNat : Int) = ((z : Int) - 48) ∧ ¬ hx < 0 by omega)
        by_cases hov : 255 < a * 16 + ((z : Int) - 48)
        · have HN := Lib.hid (show pUint t.data.toList = none by have h1 := HX.out; have h2 := HAC.out; rw [HPS.out, hdec, if_neg h1.2, if_pos (by omega)])
          clear hdec l1 l2 l3 HPS HLL HAC HX
          go_wp2_with fail
          go_ret2
          exact ⟨HBW.out, .inr ⟨HN.out, _, 1, .inl rfl, rfl⟩⟩
        · have HN := Lib.hid (show a * 16 + ((z : Int) - 48) = ((acc * 16 + hx.toNat : Nat) : Int) ∧ pU 0 bs = pU (acc * 16 + hx.toNat) (bs.drop (k + 1)) by have h1 := HX.out; have h2 := HAC.out; exact ⟨by omega, by rw [hdec, if_neg h1.2, if_neg (by omega)]⟩)
          have iov2 : a * 16 + ((z : Int) - 48) ≤ 255 := by omega
          have iov3 : 0 ≤ a * 16 + ((z : Int) - 48) := by omega
          clear hdec l1 l2 l3 HAC HX
          go_wp2_with fail
          refine ⟨⟨k + 1, acc * 16 + hx.toNat, a * 16 + ((z : Int) - 48), (by first | rfl | trivial), (by first | rfl | (congr 1; omega)), (by first | rfl | (congr 1; omega)), by omega, iov3, iov2, (by first | rfl | trivial), HN⟩, by simp [intOf]; omega⟩
      · have HCS : (¬ (48 : Int) ≤ (z : Int) ∧ ((z : Int) == 95) = false) ∨ ((48 : Int) ≤ (z : Int) ∧ ¬ (z : Int) ≤ 57 ∧ ((z : Int) == 95) = false) ∨ ((48 : Int) ≤ (z : Int) ∧ ¬ (z : Int) ≤ 57 ∧ ((z : Int) == 95) = true) := by
          simp only [beq_eq_false_iff_ne, beq_iff_eq]
          omega
        by_cases h97 : 97 ≤ lo ∧ lo ≤ 102
        · have hx1 := l2 hdig h97.1 h97.2
          have j97 : (97 : Int) ≤ (lo : Int) := by omega
          have j122 : (lo : Int) ≤ 122 := by omega
          have jn97 : 97 ≤ lo := by omega
          have jn122 : lo ≤ 102 := by omega
          clear hdig h97
          rcases HCS with ⟨q1, e95⟩ | ⟨q1, q2, e95⟩ | ⟨q1, q2, e95⟩
          · skip
            have i16 : ¬ (16 : Int) ≤ ((lo : Int) - 97 + 10) := by omega
            have HX := Lib.hid (show (hx.toNat : Int) = ((lo : Int) - 97 + 10) ∧ ¬ hx < 0 by omega)
            by_cases hov : 255 < a * 16 + ((lo : Int) - 97 + 10)
            · have HN := Lib.hid (show pUint t.data.toList = none by have h1 := HX.out; have h2 := HAC.out; rw [HPS.out, hdec, if_neg h1.2, if_pos (by omega)])
              clear hdec l1 l2 l3 HPS HLL HAC HX
              go_wp2_with fail
              refine (HLW.out _).mono ?_
              rintro e w1 ⟨rfl, rfl⟩
              go_wp2_with fail
              refine (HLW.out _).mono ?_
              rintro e w1 ⟨rfl, rfl⟩
              go_wp2_with fail
              refine (HLW.out _).mono ?_
              rintro e w1 ⟨rfl, rfl⟩
              go_wp2_with fail
              go_ret2
              exact ⟨HBW.out, .inr ⟨HN.out, _, 1, .inl rfl, rfl⟩⟩
            · have HN := Lib.hid (show a * 16 + ((lo : Int) - 97 + 10) = ((acc * 16 + hx.toNat : Nat) : Int) ∧ pU 0 bs = pU (acc * 16 + hx.toNat) (bs.drop (k + 1)) by have h1 := HX.out; have h2 := HAC.out; exact ⟨by omega, by rw [hdec, if_neg h1.2, if_neg (by omega)]⟩)
              have iov2 : a * 16 + ((lo : Int) - 97 + 10) ≤ 255 := by omega
              have iov3 : 0 ≤ a * 16 + ((lo : Int) - 97 + 10) := by omega
              clear hdec l1 l2 l3 HAC HX
              go_wp2_with fail
              refine (HLW.out _).mono ?_
              rintro e w1 ⟨rfl, rfl⟩
              go_wp2_with fail
              refine (HLW.out _).mono ?_
              rintro e w1 ⟨rfl, rfl⟩
              go_wp2_with fail
              refine (HLW.out _).mono ?_
              rintro e w1 ⟨rfl, rfl⟩
              go_wp2_with fail
              refine ⟨⟨k + 1, acc * 16 + hx.toNat, a * 16 + ((lo : Int) - 97 + 10), (by first | rfl | trivial), (by first | rfl | (congr 1; omega)), (by first | rfl | (congr 1; omega)), by omega, iov3, iov2, (by first | rfl | trivial), HN⟩, by simp [intOf]; omega⟩
          · skip
            have i16 : ¬ (16 : Int) ≤ ((lo : Int) - 97 + 10) := by omega
            have HX := Lib.hid (show (hx.toNat : Int) = ((lo : Int) - 97 + 10) ∧ ¬ hx < 0 by omega)
            by_cases hov : 255 < a * 16 + ((lo : Int) - 97 + 10)
            · have HN := Lib.hid (show pUint t.data.toList = none by have h1 := HX.out; have h2 := HAC.out; rw [HPS.out, hdec, if_neg h1.2, if_pos (by omega)])
              clear hdec l1 l2 l3 HPS HLL HAC HX
              go_wp2_with fail
              refine (HLW.out _).mono ?_
              rintro e w1 ⟨rfl, rfl⟩
              go_wp2_with fail
              refine (HLW.out _).mono ?_
              rintro e w1 ⟨rfl, rfl⟩
              go_wp2_with fail
              refine (HLW.out _).mono ?_
              rintro e w1 ⟨rfl, rfl⟩
              go_wp2_with fail
              go_ret2
              exact ⟨HBW.out, .inr ⟨HN.out, _, 1, .inl rfl, rfl⟩⟩
            · have HN := Lib.hid (show a * 16 + ((lo : Int) - 97 + 10) = ((acc * 16 + hx.toNat : Nat) : Int) ∧ pU 0 bs = pU (acc * 16 + hx.toNat) (bs.drop (k + 1)) by have h1 := HX.out; have h2 := HAC.out; exact ⟨by omega, by rw [hdec, if_neg h1.2, if_neg (by omega)]⟩)
              have iov2 : a * 16 + ((lo : Int) - 97 + 10) ≤ 255 := by omega
              have iov3 : 0 ≤ a * 16 + ((lo : Int) - 97 + 10) := by omega
              clear hdec l1 l2 l3 HAC HX
              go_wp2_with fail
              refine (HLW.out _).mono ?_
              rintro e w1 ⟨rfl, rfl⟩
              go_wp2_with fail
              refine (HLW.out _).mono ?_
              rintro e w1 ⟨rfl, rfl⟩
              go_wp2_with fail
              refine (HLW.out _).mono ?_
              rintro e w1 ⟨rfl, rfl⟩
              go_wp2_with fail
              refine ⟨⟨k + 1, acc * 16 + hx.toNat, a * 16 + ((lo : Int) - 97 + 10), (by first | rfl | trivial), (by first | rfl | (congr 1; omega)), (by first | rfl | (congr 1; omega)), by omega, iov3, iov2, (by first | rfl | trivial), HN⟩, by simp [intOf]; omega⟩
          · skip
            have i16 : ¬ (16 : Int) ≤ ((lo : Int) - 97 + 10) := by omega
            have HX := Lib.hid (show (hx.toNat : Int) = ((lo : Int) - 97 + 10) ∧ ¬ hx < 0 by omega)
            by_cases hov : 255 < a * 16 + ((lo : Int) - 97 + 10)
            · have HN := Lib.hid (show pUint t.data.toList = none by have h1 := HX.out; have h2 := HAC.out; rw [HPS.out, hdec, if_neg h1.2, if_pos (by omega)])
              clear hdec l1 l2 l3 HPS HLL HAC HX
              go_wp2_with fail
              refine (HLW.out _).mono ?_
              rintro e w1 ⟨rfl, rfl⟩
              go_wp2_with fail
              refine (HLW.out _).mono ?_
              rintro e w1 ⟨rfl, rfl⟩
              go_wp2_with fail
              refine (HLW.out _).mono ?_
              rintro e w1 ⟨rfl, rfl⟩
              go_wp2_with fail
              go_ret2
              exact ⟨HBW.out, .inr ⟨HN.out, _, 1, .inl rfl, rfl⟩⟩
            · have HN := Lib.hid (show a * 16 + ((lo : Int) - 97 + 10) = ((acc * 16 + hx.toNat : Nat) : Int) ∧ pU 0 bs = pU (acc * 16 + hx.toNat) (bs.drop (k + 1)) by have h1 := HX.out; have h2 := HAC.out; exact ⟨by omega, by rw [hdec, if_neg h1.2, if_neg (by omega)]⟩)
              have iov2 : a * 16 + ((lo : Int) - 97 + 10) ≤ 255 := by omega
              have iov3 : 0 ≤ a * 16 + ((lo : Int) - 97 + 10) := by omega
              clear hdec l1 l2 l3 HAC HX
              go_wp2_with fail
              refine (HLW.out _).mono ?_
              rintro e w1 ⟨rfl, rfl⟩
              go_wp2_with fail
              refine (HLW.out _).mono ?_
              rintro e w1 ⟨rfl, rfl⟩
              go_wp2_with fail
              refine (HLW.out _).mono ?_
              rintro e w1 ⟨rfl, rfl⟩
              go_wp2_with fail
              refine ⟨⟨k + 1, acc * 16 + hx.toNat, a * 16 + ((lo : Int) - 97 + 10), (by first | rfl | trivial), (by first | rfl | (congr 1; omega)), (by first | rfl | (congr 1; omega)), by omega, iov3, iov2, (by first | rfl | trivial), HN⟩, by simp [intOf]; omega⟩
        · have HN := Lib.hid (show pUint t.data.toList = none by rw [HPS.out, hdec, if_pos (l3 hdig h97)])
          have HLO : (¬ (97 : Int) ≤ (lo : Int)) ∨ ((97 : Int) ≤ (lo : Int) ∧ ¬ (lo : Int) ≤ 122) ∨ ((97 : Int) ≤ (lo : Int) ∧ (lo : Int) ≤ 122 ∧ (16 : Int) ≤ (lo : Int) - 97 + 10) := by omega
          clear hdig h97 hdec l1 l2 l3 HPS HLL
          rcases HLO with j1 | ⟨j1, j2⟩ | ⟨j1, j2, j3⟩
          · skip
            rcases HCS with ⟨q1, e95⟩ | ⟨q1, q2, e95⟩ | ⟨q1, q2, e95⟩
            all_goals
              go_wp2_with fail
              refine (HLW.out _).mono ?_
              rintro e w1 ⟨rfl, rfl⟩
              go_wp2_with fail
              go_ret2
              exact ⟨HBW.out, .inr ⟨HN.out, _, 2, .inr rfl, rfl⟩⟩
          · skip
            rcases HCS with ⟨q1, e95⟩ | ⟨q1, q2, e95⟩ | ⟨q1, q2, e95⟩
            all_goals
              go_wp2_with fail
              refine (HLW.out _).mono ?_
              rintro e w1 ⟨rfl, rfl⟩
              go_wp2_with fail
              refine (HLW.out _).mono ?_
              rintro e w1 ⟨rfl, rfl⟩
              go_wp2_with fail
              go_ret2
              exact ⟨HBW.out, .inr ⟨HN.out, _, 2, .inr rfl, rfl⟩⟩
          · skip
            rcases HCS with ⟨q1, e95⟩ | ⟨q1, q2, e95⟩ | ⟨q1, q2, e95⟩
            all_goals
              go_wp2_with fail
              refine (HLW.out _).mono ?_
              rintro e w1 ⟨rfl, rfl⟩
              go_wp2_with fail
              refine (HLW.out _).mono ?_
              rintro e w1 ⟨rfl, rfl⟩
              go_wp2_with fail
              refine (HLW.out _).mono ?_
              rintro e w1 ⟨rfl, rfl⟩
              go_wp2_with fail
              go_ret2
              exact ⟨HBW.out, .inr ⟨HN.out, _, 2, .inr rfl, rfl⟩⟩
    · obtain rfl : k = t.size := by omega
      have HF := Lib.hid (show a = (acc : Int) ∧ pUint t.data.toList = some acc from ⟨HD.out.1, by
        rw [HPS.out, HD.out.2, List.drop_eq_nil_of_le (by have := HLL.out; omega)]; rfl⟩)
      clear HD HAC
      go_wp2_with fail
      go_ret2
      exact ⟨HBW.out, .inl ⟨acc, HF.out.2, by have := HF.out.1; omega, by rw [← HF.out.1]; rfl⟩⟩
end Go.Proofs.YtpfhljidjnagkaaDoor

/- Contracts of the reference of layer 10: FormatMac, ParseMac. -/
namespace Go.Proofs.YtpfhljidjnagkaaDoor
open Go.ChangeShapes Go.WideShapes Go.ChangeAt Go.RowKit
set_option linter.unusedVariables false

def hexTab : ByteArray := ⟨#[48, 49, 50, 51, 52, 53, 54, 55, 56, 57, 97, 98, 99, 100, 101, 102]⟩
theorem hex_cut {x : Nat} (h : x < 16) : (⟨#[48, 49, 50, 51, 52, 53, 54, 55, 56, 57, 97, 98, 99, 100, 101, 102]⟩ : ByteArray).extract x (x + 1) = str [hexM x] := by
  obtain rfl | rfl | rfl | rfl | rfl | rfl | rfl | rfl | rfl | rfl | rfl | rfl | rfl | rfl | rfl | rfl : x = 0 ∨ x = 1 ∨ x = 2 ∨ x = 3 ∨ x = 4 ∨ x = 5 ∨ x = 6 ∨ x = 7 ∨ x = 8 ∨ x = 9 ∨ x = 10 ∨ x = 11 ∨ x = 12 ∨ x = 13 ∨ x = 14 ∨ x = 15 := by omega
  all_goals kernel_rfl
theorem str_get10 (B : List UInt8) (k : Nat) (h : k < (str B).size) : B[k]? = some ((str B)[k]'h) := by
  have hk : k < B.length := by rwa [str_size] at h
  rw [List.getElem?_eq_getElem hk]
  rfl
set_option maxHeartbeats 4000000 in
set_option maxRecDepth 20000 in
theorem rfmac10_any (n : Nat) (w : World) (hn : n < 18446744073709551616) :
    Calls Tryd.prog 17 #[.int .u64 (n : Int)] w fun e w' => e = .returned (.string (str (fmtMac n))) ∧ Below w.heap.size w w' := by
  obtain ⟨R, hR⟩ : ∃ R, R = fmtMac n := ⟨_, rfl⟩
  rw [← hR]
  unfold fmtMac at hR
  by_cases h : 281474976710656 ≤ n
  · have hR1 := Lib.hid (show R = [] by rw [hR, if_pos h])
    have d0 : decide ((281474976710656 : Int) ≤ (n : Int)) = true := by simp; omega
    have n0 : (281474976710656 : Int) ≤ (n : Int) := by omega
    clear hR h
    go_enter Tryd.func17, Tryd.ntmps17
    go_wp2_with fail
    go_ret
    exact ⟨by rw [hR1.out]; rfl, Below.refl _ _⟩
  · have HR := Lib.hid (show R = macP (beL 6 n) 6 by rw [hR, if_neg h])
    have d0 : decide ((281474976710656 : Int) ≤ (n : Int)) = false := by simp; omega
    have n0 : ¬ (281474976710656 : Int) ≤ (n : Int) := by omega
    have cn : IntKind.i64.wrap (n : Int) = (n : Int) := by rw [IntKind.wrap_i64]; omega
    have HP := Lib.hid (putB_any 6 n (n : Int) 6 rfl rfl (by decide) (by decide) (by omega) w)
    have hbl := beL_len 6 n
    generalize beL 6 n = B at *
    have hsz : (str B).size = 6 := by rw [str_size, hbl]
    have HG := Lib.hid (fun (k : Nat) (hk : k < (str B).size) => str_get10 B k hk)
    obtain ⟨s, hs⟩ : ∃ s, s = str B := ⟨_, rfl⟩
    rw [← hs] at HP hsz HG
    have HX := Lib.hid (fun (x : Nat) (hx : x < 16) => hex_cut hx)
    have HML := Lib.hid (fun k => macP_len (b := B) k)
    clear hR h hbl hs
    obtain ⟨D, hD⟩ : ∃ D, D = (⟨#[48, 49, 50, 51, 52, 53, 54, 55, 56, 57, 97, 98, 99, 100, 101, 102]⟩ : ByteArray) := ⟨_, rfl⟩
    rw [← hD] at HX
    have hDs : D.size = 16 := by rw [hD]; rfl
    go_enter Tryd.func17, Tryd.ntmps17
    go_wp2_with fail
    refine HP.out.mono ?_
    rintro e w1 ⟨rfl, hb⟩
    have HB := Lib.hid hb
    clear hb HP cn d0 n0
    go_wp2_with fail
    rw [← hD]
    clear hD
    go_loopw [5, 6] (fun v5 v6 wr => ∃ k : Nat, v5 = .string (str (macP B k)) ∧ v6 = .int .i64 k ∧ k ≤ 6 ∧ Hid (Below w.heap.size w wr)) (fun _ v6 _ => 6 - (intOf v6).toNat)
    case atStart => exact ⟨0, rfl, rfl, by omega, HB⟩
    case round =>
      clear HB
      obtain ⟨k, rfl, rfl, hk, HB⟩ := hrel
      by_cases hlt : k < 6
      · have dlt : decide ((k : Int) < (6 : Int)) = true := by simp; omega
        have hki : (k : Int) < (6 : Int) := by omega
        have hk0 : (0 : Int) ≤ (k : Int) := by omega
        have hks : k < s.size := by omega
        have hksi : (k : Int) < (s.size : Int) := by omega
        have hg := HG.out k hks
        have hx8 := u8_lt s[k]
        have hgd : (B.getD k 0).toNat = s[k].toNat := by rw [List.getD, hg]; rfl
        obtain ⟨b, hb⟩ : ∃ b, b = s[k].toNat := ⟨_, rfl⟩
        rw [← hb] at hx8 hgd
        have hx' : ((s[k].toNat : Nat) : Int) = (b : Int) := by rw [hb]
        obtain ⟨x, hx⟩ : ∃ x, x = b / 16 := ⟨_, rfl⟩
        obtain ⟨y, hy⟩ : ∃ y, y = b % 16 := ⟨_, rfl⟩
        have xi : (b : Int) / 16 = (x : Int) := by omega
        have yi : (b : Int) % 16 = (y : Int) := by omega
        obtain ⟨x1, hx1⟩ : ∃ x1, x1 = x + 1 := ⟨_, rfl⟩
        obtain ⟨y1, hy1⟩ : ∃ y1, y1 = y + 1 := ⟨_, rfl⟩
        have x1i : (x : Int) + 1 = (x1 : Int) := by omega
        have y1i : (y : Int) + 1 = (y1 : Int) := by omega
        have ex := HX.out x (by omega)
        have ey := HX.out y (by omega)
        rw [← hx1] at ex
        rw [← hy1] at ey
        have x0 : (0 : Int) ≤ (x : Int) := by omega
        have y0 : (0 : Int) ≤ (y : Int) := by omega
        have xx1 : (x : Int) ≤ (x1 : Int) := by omega
        have yy1 : (y : Int) ≤ (y1 : Int) := by omega
        have xs1 : (x1 : Int) ≤ (D.size : Int) := by omega
        have ys1 : (y1 : Int) ≤ (D.size : Int) := by omega
        have hb2 : b < 256 := hx8
        have wx : IntKind.i64.wrap (x1 : Int) = (x1 : Int) := by rw [IntKind.wrap_i64]; omega
        have wy : IntKind.i64.wrap (y1 : Int) = (y1 : Int) := by rw [IntKind.wrap_i64]; omega
        have hmp : macP B (k + 1) = macP B k ++ ((if 0 < k then [58] else []) ++ ([hexM x] ++ [hexM y])) := by rw [macP, hgd, ← hx, ← hy]
        have HML2 := Lib.hid (show (macP B k).length ≤ 17 by
          cases k with
          | zero => simp [macP]
          | succ j => rw [HML.out j]; omega)
        have s1 : (D.extract x x1).size = 1 := by rw [ex, str_size]; rfl
        have s2 : (D.extract y y1).size = 1 := by rw [ey, str_size]; rfl
        by_cases hz : 0 < k
        · have dz : decide ((0 : Int) < (k : Int)) = true := by simp; omega
          have nz : (0 : Int) < (k : Int) := by omega
          have HN := Lib.hid (show str (macP B k) ++ (⟨#[58]⟩ : ByteArray) ++ D.extract x x1 ++ D.extract y y1 = str (macP B (k + 1)) by
            rw [hmp, if_pos hz, ex, ey, show (⟨#[58]⟩ : ByteArray) = str [58] from rfl, str_append, str_append, str_append]
            simp only [List.append_assoc])
          have z0 : (str (macP B k)).size ≤ 17 := by rw [str_size]; exact HML2.out
          obtain ⟨O, hO⟩ : ∃ O, O = str (macP B k) := ⟨_, rfl⟩
          rw [← hO] at HN z0 ⊢
          have hO17 := z0
          have q1 : (9223372036854775807 < O.size + 1) = False := by simp only [eq_iff_iff, iff_false]; omega
          have q2 : (9223372036854775807 < O.size + 1 + (D.extract x x1).size) = False := by rw [s1]; simp only [eq_iff_iff, iff_false]; omega
          have q3 : (9223372036854775807 < O.size + 1 + (D.extract x x1).size + (D.extract y y1).size) = False := by rw [s1, s2]; simp only [eq_iff_iff, iff_false]; omega
          have o1 : (O ++ (⟨#[58]⟩ : ByteArray)).size = O.size + 1 := by rw [ByteArray.size_append]; rfl
          have o2 : (O ++ (⟨#[58]⟩ : ByteArray) ++ D.extract x x1).size = O.size + 1 + (D.extract x x1).size := by rw [ByteArray.size_append, o1]
          have q2' : (9223372036854775807 < (O ++ (⟨#[58]⟩ : ByteArray)).size + (D.extract x x1).size) = False := by rw [o1, s1]; simp only [eq_iff_iff, iff_false]; omega
          have q3' : (9223372036854775807 < (O ++ (⟨#[58]⟩ : ByteArray) ++ D.extract x x1).size + (D.extract y y1).size) = False := by rw [o2, s1, s2]; simp only [eq_iff_iff, iff_false]; omega
          clear hO ex ey hmp hx hy hx1 hy1 hg hgd hb HX s1 s2 o1 o2 hz hx8
          go_wp2_with fail
          go_quiet (fail)
          have HB2 := Lib.hid (show Below w.heap.size w (wr.drewN nq) from ⟨HB.out.os, HB.out.tape, HB.out.output, HB.out.size, HB.out.block⟩)
          clear HB
          generalize wr.drewN nq = w2 at *
          go_wp2_with fail
          go_roundw
          case rel => exact ⟨k + 1, by rw [← HN.out], by go_num, by omega, HB2⟩
          case measure => simp [intOf]; omega
        · have dz : decide ((0 : Int) < (k : Int)) = false := by simp; omega
          have nz : ¬ (0 : Int) < (k : Int) := by omega
          have nz2 : ¬ 0 < k := hz
          have dz2 : decide (0 < k) = false := by simp; omega
          have HN := Lib.hid (show str (macP B k) ++ D.extract x x1 ++ D.extract y y1 = str (macP B (k + 1)) by
            rw [hmp, if_neg hz, ex, ey, str_append, str_append]
            simp only [List.append_assoc, List.nil_append])
          have z0 : (str (macP B k)).size ≤ 17 := by rw [str_size]; exact HML2.out
          obtain ⟨O, hO⟩ : ∃ O, O = str (macP B k) := ⟨_, rfl⟩
          rw [← hO] at HN z0 ⊢
          have q2 : (9223372036854775807 < O.size + (D.extract x x1).size) = False := by rw [s1]; simp only [eq_iff_iff, iff_false]; omega
          have q3 : (9223372036854775807 < O.size + (D.extract x x1).size + (D.extract y y1).size) = False := by rw [s1, s2]; simp only [eq_iff_iff, iff_false]; omega
          have o2 : (O ++ D.extract x x1).size = O.size + (D.extract x x1).size := by rw [ByteArray.size_append]
          have q3' : (9223372036854775807 < (O ++ D.extract x x1).size + (D.extract y y1).size) = False := by rw [o2, s1, s2]; simp only [eq_iff_iff, iff_false]; omega
          clear hO ex ey hmp hx hy hx1 hy1 hg hgd hb HX s1 s2 o2 hz hx8
          go_wp2_with fail
          go_quiet (fail)
          have HB2 := Lib.hid (show Below w.heap.size w (wr.drewN nq) from ⟨HB.out.os, HB.out.tape, HB.out.output, HB.out.size, HB.out.block⟩)
          clear HB
          generalize wr.drewN nq = w2 at *
          go_wp2_with fail
          go_roundw
          case rel => exact ⟨k + 1, by rw [← HN.out], by go_num, by omega, HB2⟩
          case measure => simp [intOf]; omega
      · obtain rfl : k = 6 := by omega
        go_wp2_with fail
        go_ret
        exact ⟨by rw [HR.out]; rfl, HB.out⟩
set_option maxHeartbeats 4000000 in
set_option maxRecDepth 20000 in
theorem rpmac10_any (S : List UInt8) (w : World) (hl : S.length ≤ 1000000) :
    Calls Tryd.prog 16 #[.string (str S)] w fun e w' => e = .returned (.tuple #[.int .u64 ((pMac S).1 : Int), .int .i64 ((pMac S).2 : Int)]) ∧ Below w.heap.size w w' := by
  obtain ⟨R, hR⟩ : ∃ R, R = pMac S := ⟨_, rfl⟩
  rw [← hR]
  unfold pMac at hR
  have hsz : (str S).size = S.length := str_size S
  have HG := Lib.hid (fun (k : Nat) (hk : k < (str S).size) => str_get10 S k hk)
  obtain ⟨s, hs⟩ : ∃ s, s = str S := ⟨_, rfl⟩
  rw [← hs] at hsz HG ⊢
  by_cases h : S.length ≠ 17
  · have hR1 := Lib.hid (show R = (0, 2) by rw [hR, if_pos h])
    have d0 : ((s.size : Int) != 17) = true := by rw [bne_iff_ne]; omega
    have n0 : ¬ (s.size : Int) = 17 := by omega
    clear hR h hs
    go_enter Tryd.func16, Tryd.ntmps16
    go_wp2_with fail
    go_ret2
    exact ⟨by rw [hR1.out]; rfl, Below.refl _ _⟩
  · have HRN := Lib.hid (fun (hh : pmP S 17 = none) => show R = (0, 2) from by rw [hR, if_neg h, hh])
    have HRS := Lib.hid (fun (n : Nat) (hh : pmP S 17 = some n) => show R = (n, 0) from by rw [hR, if_neg h, hh])
    have hs17 : s.size = 17 := by omega
    have HNO := Lib.hid (fun (k : Nat) (hk : k ≤ 17) (h : pmP S k = none) => show R = (0, 2) from by
      have := pm_none h (17 - k)
      rw [show k + (17 - k) = 17 by omega] at this
      exact HRN.out this)
    have HSZ := Lib.hid hs17
    clear hR h hs hsz hl
    go_enter Tryd.func16, Tryd.ntmps16
    go_wp2_with fail
    clear hs17
    go_loopw [4, 5] (fun v4 v5 wr => ∃ n k : Nat, v4 = .int .i64 n ∧ v5 = .int .i64 k ∧ k ≤ 17 ∧ Hid (pmP S k = some n) ∧ Hid (Below w.heap.size w wr)) (fun _ v5 _ => 17 - (intOf v5).toNat)
    case atStart => exact ⟨0, 0, rfl, rfl, by omega, Lib.hid rfl, Lib.hid (Below.refl _ _)⟩
    case round =>
      obtain ⟨n, k, rfl, rfl, hk, HP, HB⟩ := hrel
      have hn : n < 281474976710656 := by
        have h1 := pm_lt k n HP.out
        have h2 : 16 ^ (k - k / 3) ≤ 16 ^ 12 := Nat.pow_le_pow_right (by decide) (by omega)
        have h3 : (16 : Nat) ^ 12 = 281474976710656 := by decide
        omega
      by_cases hlt : k < 17
      · have dlt : decide ((k : Int) < (17 : Int)) = true := by simp; omega
        have hki : (k : Int) < (17 : Int) := by omega
        have hk0 : (0 : Int) ≤ (k : Int) := by omega
        have hks : k < s.size := by have := HSZ.out; omega
        have hksi : (k : Int) < (s.size : Int) := by omega
        have hg := HG.out k hks
        have hx8 := u8_lt s[k]
        obtain ⟨m, hm⟩ : ∃ m, m = k % 3 := ⟨_, rfl⟩
        have mi : (k : Int) % 3 = (m : Int) := by omega
        have HSTA := Lib.hid (fun (h : m = 2) => show pmP S (k + 1) = if some s[k] = some 58 then some n else none from by
          rw [pmP, HP.out]
          simp only
          rw [if_pos (by omega), hg])
        have HSTB := Lib.hid (fun (h : ¬ m = 2) => show pmP S (k + 1) = if hexI s[k] < 0 then none else some (n * 16 + (hexI s[k]).toNat) from by
          rw [pmP, HP.out]
          simp only
          rw [if_neg (by omega), hg])
        have HH := Lib.hid (fun (W : World) => rhex4_any s[k] W)
        have hhl := hexI_lt s[k]
        have hc58 : s[k].toNat = 58 ↔ s[k] = 58 := ⟨fun e => UInt8.toNat_inj.1 (by rw [e]; rfl), fun e => by rw [e]; rfl⟩
        obtain ⟨c, hc⟩ : ∃ c, c = s[k] := ⟨_, rfl⟩
        rw [← hc] at HSTA HSTB HH hhl hx8 hc58
        obtain ⟨b, hb⟩ : ∃ b, b = c.toNat := ⟨_, rfl⟩
        rw [← hb] at HH hx8 hc58
        have hx' : ((s[k].toNat : Nat) : Int) = (b : Int) := by rw [hb, hc]
        clear hg hc hb HG
        by_cases hm2 : m = 2
        · have em : ((m : Int) == 2) = true := by rw [hm2]; rfl
          have im : (m : Int) = 2 := by omega
          by_cases h58 : b = 58
          · have eb : ((b : Int) != 58) = false := by rw [h58]; rfl
            have ib : (b : Int) = 58 := by omega
            have HN := Lib.hid (show pmP S (k + 1) = some n by rw [HSTA.out hm2, if_pos (by rw [hc58.1 h58])])
            clear hm2 h58 hc58 hm HH hhl HSTA HSTB
            go_wp2_with fail
            go_roundw
            case rel => exact ⟨n, k + 1, rfl, by go_num, by omega, HN, HB⟩
            case measure => simp [intOf]; omega
          · have eb : ((b : Int) != 58) = true := by rw [bne_iff_ne]; omega
            have ib : ¬ (b : Int) = 58 := by omega
            have hR1 := Lib.hid (HNO.out (k + 1) (by omega) (by rw [HSTA.out hm2, if_neg (fun e => h58 (hc58.2 (Option.some.inj e)))]))
            clear hm2 h58 hc58 hm HH hhl HSTA HSTB
            go_wp2_with fail
            go_ret2
            exact ⟨by rw [hR1.out]; rfl, HB.out⟩
        · have em : ((m : Int) == 2) = false := by rw [beq_eq_false_iff_ne]; omega
          have im : ¬ (m : Int) = 2 := by omega
          have HST2 := Lib.hid (HSTB.out hm2)
          clear hm2 hc58 hm HSTA HSTB
          generalize hexI c = hx at *
          by_cases hneg : hx < 0
          · have eh : decide (hx < (0 : Int)) = true := by simp; omega
            have hR1 := Lib.hid (HNO.out (k + 1) (by omega) (by rw [HST2.out, if_pos hneg]))
            clear HST2
            go_wp2_with fail
            refine (HH.out _).mono ?_
            rintro e w5 ⟨rfl, rfl⟩
            go_wp2_with fail
            go_ret2
            exact ⟨by rw [hR1.out]; rfl, HB.out⟩
          · obtain ⟨y, rfl⟩ : ∃ y : Nat, hx = (y : Int) := ⟨hx.toNat, by omega⟩
            have eh : decide ((y : Int) < (0 : Int)) = false := by simp
            have ih : ¬ (y : Int) < (0 : Int) := by omega
            have HN := Lib.hid (show pmP S (k + 1) = some (n * 16 + y) by rw [HST2.out, if_neg (by omega), Int.toNat_natCast])
            obtain ⟨n1, hn1⟩ : ∃ n1, n1 = n * 16 + y := ⟨_, rfl⟩
            have n1i : (n : Int) * 16 + (y : Int) = (n1 : Int) := by omega
            rw [← hn1] at HN
            clear HST2 hneg hn1
            go_wp2_with fail
            refine (HH.out _).mono ?_
            rintro e w5 ⟨rfl, rfl⟩
            go_wp2_with fail
            go_roundw
            case rel => exact ⟨n1, k + 1, rfl, by go_num, by omega, HN, HB⟩
            case measure => simp [intOf]; omega
      · obtain rfl : k = 17 := by omega
        have hR1 := Lib.hid (HRS.out n HP.out)
        go_wp2_with fail
        go_ret2
        exact ⟨by rw [hR1.out]; go_num, HB.out⟩
end Go.Proofs.YtpfhljidjnagkaaDoor

/- Contracts of the program of layer 10: FormatMac, ParseMac. -/
namespace Go.Proofs.YtpfhljidjnagkaaDoor
open Go.ChangeShapes Go.WideShapes Go.ChangeAt Go.RowKit
set_option linter.unusedVariables false

/-- Bytes as elements. -/
def EU8 : Enc UInt8 := ⟨1, by decide, fun x => [.int .u8 (x.toNat : Int)], fun _ => rfl, fun s v hv => by
  simp only [List.mem_cons, List.not_mem_nil, or_false] at hv
  subst hv
  rfl⟩
theorem u8Ty10 : ElemTy 48 5 1 1 :=
  ⟨Tryd.underlying48, by
    obtain ⟨i, h1, h2, h3, h4⟩ := info_parts info5
    exact ⟨i, _, h1, h2, h3, h4, rfl⟩⟩
theorem eu8_cells (l : List UInt8) : EU8.cells l = cellsOf l := by
  induction l with
  | nil => rfl
  | cons a r ih => rw [Enc.cells_cons, ih]; rfl
/-- Put of the program, of a number that fits. -/
theorem pputB_any (k n : Nat) (N Z : Int) (hN : (n : Int) = N) (hZ : (k : Int) = Z) (hk : 1 ≤ k) (hk7 : k ≤ 7) (hn : n < 256 ^ k) (hn9 : n ≤ 9223372036854775807) (w : World) :
    Calls Tryd.prog 26 #[.int .i64 N, .int .i64 Z] w fun e w' => e = .returned (.string (str (beL k n))) ∧ Below w.heap.size w w' := by
  subst hN hZ
  have := put_yes (n : Int) (k : Int) w (by omega) (by omega) (by omega) (by omega) (by rw [Int.toNat_natCast, Int.toNat_natCast]; exact hn)
  rwa [Int.toNat_natCast, Int.toNat_natCast] at this
theorem hexM_at (k : Nat) (h : k < 16) (W : World) : (Instr.index 9 (.string ⟨#[48, 49, 50, 51, 52, 53, 54, 55, 56, 57, 97, 98, 99, 100, 101, 102]⟩) (.int .u8 (k : Int))).run Tryd.prog W = .ok (.int .u8 ((hexM k).toNat : Int)) W := by
  match k, h with
  | 0, _ => exact (show ∀ V, _ = _ from fun _ => by kernel_rfl) W
  | 1, _ => exact (show ∀ V, _ = _ from fun _ => by kernel_rfl) W
  | 2, _ => exact (show ∀ V, _ = _ from fun _ => by kernel_rfl) W
  | 3, _ => exact (show ∀ V, _ = _ from fun _ => by kernel_rfl) W
  | 4, _ => exact (show ∀ V, _ = _ from fun _ => by kernel_rfl) W
  | 5, _ => exact (show ∀ V, _ = _ from fun _ => by kernel_rfl) W
  | 6, _ => exact (show ∀ V, _ = _ from fun _ => by kernel_rfl) W
  | 7, _ => exact (show ∀ V, _ = _ from fun _ => by kernel_rfl) W
  | 8, _ => exact (show ∀ V, _ = _ from fun _ => by kernel_rfl) W
  | 9, _ => exact (show ∀ V, _ = _ from fun _ => by kernel_rfl) W
  | 10, _ => exact (show ∀ V, _ = _ from fun _ => by kernel_rfl) W
  | 11, _ => exact (show ∀ V, _ = _ from fun _ => by kernel_rfl) W
  | 12, _ => exact (show ∀ V, _ = _ from fun _ => by kernel_rfl) W
  | 13, _ => exact (show ∀ V, _ = _ from fun _ => by kernel_rfl) W
  | 14, _ => exact (show ∀ V, _ = _ from fun _ => by kernel_rfl) W
  | 15, _ => exact (show ∀ V, _ = _ from fun _ => by kernel_rfl) W
  | k + 16, h => exact absurd h (by omega)
theorem and15_u8 (b : Nat) (h : b < 256) : bits .and .u8 (b : Int) 15 = ((b % 16 : Nat) : Int) := by
  have : ∀ y : Fin 256, bits .and .u8 (y.val : Int) 15 = ((y.val % 16 : Nat) : Int) := by decide +kernel
  exact this ⟨b, h⟩
theorem str_getD10 (L : List UInt8) (k : Nat) : (str L).data.toList.getD k 0 = L.getD k 0 := by rw [str_toList]
set_option maxHeartbeats 4000000 in
set_option maxRecDepth 20000 in
theorem pfmac10_any (n : Nat) (w : World) (hn : n < 18446744073709551616) :
    Calls Tryd.prog 14 #[.int .u64 (n : Int)] w fun e w' => e = .returned (.string (str (fmtMac n))) ∧ Below w.heap.size w w' := by
  obtain ⟨R, hR⟩ : ∃ R, R = fmtMac n := ⟨_, rfl⟩
  rw [← hR]
  unfold fmtMac at hR
  by_cases h : 281474976710656 ≤ n
  · have hR1 := Lib.hid (show R = [] by rw [hR, if_pos h])
    have d0 : decide ((281474976710656 : Int) ≤ (n : Int)) = true := by simp; omega
    have n0 : (281474976710656 : Int) ≤ (n : Int) := by omega
    clear hR h
    go_enter Tryd.func14, Tryd.ntmps14
    go_wp2_with fail
    go_ret
    exact ⟨by rw [hR1.out]; rfl, Below.refl _ _⟩
  · have HR := Lib.hid (show R = macP (beL 6 n) 6 by rw [hR, if_neg h])
    have d0 : decide ((281474976710656 : Int) ≤ (n : Int)) = false := by simp; omega
    have n0 : ¬ (281474976710656 : Int) ≤ (n : Int) := by omega
    have cn : IntKind.i64.wrap (n : Int) = (n : Int) := by rw [IntKind.wrap_i64]; omega
    have HP := Lib.hid (pputB_any 6 n (n : Int) 6 rfl rfl (by decide) (by decide) (by omega) (by omega) w)
    have hbl := beL_len 6 n
    generalize beL 6 n = B at *
    have hsz : (str B).size = 6 := by rw [str_size, hbl]
    have HGD := Lib.hid (fun k => str_getD10 B k)
    obtain ⟨s, hs⟩ : ∃ s, s = str B := ⟨_, rfl⟩
    rw [← hs] at HP hsz HGD
    have HX := Lib.hid (fun (x : Nat) (hx : x < 16) (W : World) => hexM_at x hx W)
    have HML := Lib.hid (fun k => macP_len (b := B) k)
    clear hR h hbl hs
    go_enter Tryd.func14, Tryd.ntmps14
    go_wp2_with fail
    refine HP.out.mono ?_
    rintro e w1 ⟨rfl, hb⟩
    have hcv := Lib.run_convert_string_bytes (P := Tryd.prog) w1 9 48 5 s (u := .string) Tryd.underlying9 Tryd.underlying48 Tryd.underlying5
    have hB : ∀ j, j < s.size → (Lib.bytesWorld w1 5 s).cell? ⟨w1.heap.size, j, none⟩ = some (.int .u8 (s.data.toList.getD j 0).toNat) := fun j hj => Lib.bytesWorld_cell w1 5 s j hj
    have hbb := Lib.bytesWorld_below w1 5 s
    have HB := Lib.hid (hb.trans (hbb.mono hb.size))
    obtain ⟨W1, hW1⟩ : ∃ W1, W1 = Lib.bytesWorld w1 5 s := ⟨_, rfl⟩
    obtain ⟨cp, hcp⟩ : ∃ c, c = grownCap w1 s.size 0 5 := ⟨_, rfl⟩
    obtain ⟨gs, hgs⟩ : ∃ g, g = w1.heap.size := ⟨_, rfl⟩
    rw [← hW1, ← hcp, ← hgs] at hcv
    rw [← hW1, ← hgs] at hB
    rw [← hW1] at HB
    rw [hsz] at hcv hB
    have HBC := Lib.hid (fun (W : World) (hbw : Below W1.heap.size W1 W) (j : Nat) (hj : j < 6) => show W.cell? ⟨gs, j, none⟩ = some (.int .u8 ((B.getD j 0).toNat : Int)) from by
      have h1 := hB j hj
      rw [HGD.out] at h1
      have h2 : gs < W1.heap.size := by
        apply Decidable.byContradiction
        intro hh
        have : W1.heap[gs]? = none := Array.getElem?_eq_none (by omega)
        simp [World.cell?, this] at h1
      rw [← h1]
      exact World.cell?_of_block (hbw.block _ h2))
    clear hb hbb hB HP cn d0 n0 hW1 hcp hgs
    go_wp2_with fail
    clear hcv
    go_loopw [3, 13] (fun v3 v13 wr => ∃ (k m c : Nat) (A : Option Addr), v3 = .slice A m c ∧ v13 = .int .i64 (k : Int) ∧ k ≤ 6 ∧ m ≤ 20 ∧ Hid (m = (macP B k).length) ∧ Hid (wr.ownsRow W1.heap.size 5 1 (.slice A m c) m (EU8.cells (macP B k))) ∧ Hid (Below W1.heap.size W1 wr)) (fun _ v13 _ => 6 - (intOf v13).toNat)
    case atStart => exact ⟨0, 0, 0, none, rfl, rfl, by omega, by omega, Lib.hid rfl, Lib.hid (World.ownsRow_nil _ _ _ _), Lib.hid (Below.refl _ _)⟩
    case round =>
      obtain ⟨k, m, c, A, rfl, rfl, hk, hm20, HM, HO, HBL⟩ := hrel
      by_cases hlt : k < 6
      · have dlt : decide ((k : Int) < (6 : Int)) = true := by simp; omega
        have hki : (k : Int) < (6 : Int) := by omega
        have hk0 : (0 : Int) ≤ (k : Int) := by omega
        have hcb := HBC.out wr HBL.out k hlt
        have hb8 := u8_lt (B.getD k 0)
        have HNX := Lib.hid (show macP B (k + 1) = macP B k ++ ((if 0 < k then [58] else []) ++ ([hexM ((B.getD k 0).toNat / 16)] ++ [hexM ((B.getD k 0).toNat % 16)])) from rfl)
        generalize (B.getD k 0).toNat = b at *
        have h15 := and15_u8 b hb8
        obtain ⟨x, hx⟩ : ∃ x, x = b / 16 := ⟨_, rfl⟩
        obtain ⟨y, hy⟩ : ∃ y, y = b % 16 := ⟨_, rfl⟩
        rw [← hx, ← hy] at HNX
        rw [← hy] at h15
        have h16 : (b : Int) / 16 = (x : Int) := by omega
        have i1 := HX.out x (by omega)
        have i2 := HX.out y (by omega)
        generalize hexM x = d1 at *
        generalize hexM y = d2 at *
        have HML2 := Lib.hid (show (macP B k).length ≤ 17 by
          cases k with
          | zero => simp [macP]
          | succ j => rw [HML.out j]; omega)
        have HML3 := Lib.hid (HML.out k)
        clear hx hy HBC HX
        by_cases hz : 0 < k
        · have dz : decide ((0 : Int) < (k : Int)) = true := by simp; omega
          have nz : (0 : Int) < (k : Int) := by omega
          have HN2 := Lib.hid (show macP B (k + 1) = (macP B k ++ [58]) ++ [d1, d2] by rw [HNX.out, if_pos hz]; simp)
          have HSZ := Lib.hid (show W1.heap.size ≤ wr.heap.size from HBL.out.size)
          clear HNX hz
          go_wp2_with (at_builtin; refine wpList_push (E := EU8) u8Ty10 (by rfl) _ _ (by rfl) W1.heap.size _ m (macP B k) [58] (by rfl) (HO.out.alloc _) _ 1 1 #[.int .u8 58] (0, 0) (by rfl) (heap_alloc_new _ _) (by rfl) rfl (by omega) (by omega) (by decide) ?hb ?_)
          case hb => have := HSZ.out; simp; omega
          intro g2 c2 wz hown hgrow hat hlt2
          have HO2 := Lib.hid hown
          have HB2 := Lib.hid ((HBL.out.alloc HBL.out.size (.cells #[.int .u8 58] 5)).grown (show (wr.alloc (.cells #[.int .u8 58] 5)).grownBy wz _ from hgrow) (by have := HSZ.out; simp; omega) (fun j hj => (own_blk_in HO.out _ hj).1))
          have hM2 : m + 1 ≤ 18 := by have := HML2.out; have := HM.out; omega
          clear hown hgrow hat hlt2 hcb
          go_wp2_with fail
          go_region_held3 (fun _ => True) (trivial) ((refine step_push (E := EU8) u8Ty10 (by rfl) _ _ (by rfl) W1.heap.size (.slice (some ⟨g2, 0, none⟩) (m + 1) c2) (m + 1) (macP B k ++ [58]) [d1, d2] (by rfl) ((HO2.out.alloc _).drew) wz.heap.size 2 2 #[.int .u8 (d1.toNat : Int), .int .u8 (d2.toNat : Int)] (0, 0) (by rfl) (heap_alloc_new wz _) rfl rfl (by omega) (by omega) (by decide) (by have := HB2.out.size; simp; omega) ?_; intro g3 c3 w3 hown3 hgrow3 hat3 hlt3))
          all_goals
            have HO3 := Lib.hid hown3
            have HB3 := Lib.hid (((HB2.out.alloc HB2.out.size (.cells #[.int .u8 (d1.toNat : Int), .int .u8 (d2.toNat : Int)] 5)).drew).grown hgrow3 (by have := HB2.out.size; simp; omega) (fun j hj => (own_blk_in HO2.out _ hj).1))
            clear hown3 hgrow3 hat3 hlt3 i1 i2
            go_wp2_with fail
            go_roundw
            case rel => exact ⟨k + 1, m + 1 + 2, c3, some ⟨g3, 0, none⟩, rfl, by go_num, by omega, by omega, Lib.hid (by have := HML3.out; have := HM.out; rw [HN2.out]; simp; omega), Lib.hid (by rw [HN2.out]; exact HO3.out), HB3⟩
            case measure => simp [intOf]; omega
        · have dz : decide ((0 : Int) < (k : Int)) = false := by simp; omega
          have nz : ¬ (0 : Int) < (k : Int) := by omega
          have nz2 : ¬ 0 < k := hz
          have HN2 := Lib.hid (show macP B (k + 1) = macP B k ++ [d1, d2] by rw [HNX.out, if_neg hz]; simp)
          have HSZ := Lib.hid (show W1.heap.size ≤ wr.heap.size from HBL.out.size)
          have hM2 : m ≤ 17 := by have := HML2.out; have := HM.out; omega
          clear HNX hz
          go_wp2_with fail
          go_region_held3 (fun _ => True) (trivial) ((refine step_push (E := EU8) u8Ty10 (by rfl) _ _ (by rfl) W1.heap.size (.slice A m c) m (macP B k) [d1, d2] (by rfl) ((HO.out.alloc _).drew) wr.heap.size 2 2 #[.int .u8 (d1.toNat : Int), .int .u8 (d2.toNat : Int)] (0, 0) (by rfl) (heap_alloc_new wr _) rfl rfl (by omega) (by omega) (by decide) (by have := HSZ.out; simp; omega) ?_; intro g3 c3 w3 hown3 hgrow3 hat3 hlt3))
          all_goals
            have HO3 := Lib.hid hown3
            have HB3 := Lib.hid (((HBL.out.alloc HBL.out.size (.cells #[.int .u8 (d1.toNat : Int), .int .u8 (d2.toNat : Int)] 5)).drew).grown hgrow3 (by have := HSZ.out; simp; omega) (fun j hj => (own_blk_in HO.out _ hj).1))
            clear hown3 hgrow3 hat3 hlt3 i1 i2
            go_wp2_with fail
            go_roundw
            case rel => exact ⟨k + 1, m + 2, c3, some ⟨g3, 0, none⟩, rfl, by go_num, by omega, by omega, Lib.hid (by have := HM.out; rw [HN2.out]; simp; omega), Lib.hid (by rw [HN2.out]; exact HO3.out), HB3⟩
            case measure => simp [intOf]; omega
      · obtain rfl : k = 6 := by omega
        have hO := HO.out
        obtain rfl : m = (macP B 6).length := HM.out
        rw [eu8_cells] at hO
        have hcv := bs_string (bs_of_own hO)
        have HBZ := Lib.hid (HB.out.trans (HBL.out.mono HB.out.size))
        clear hO HO HM HBL HML HBC hm20
        rw [← HR.out] at hcv ⊢
        clear HR
        generalize R.length = q at *
        go_wp2_with fail
        go_ret
        exact ⟨rfl, HBZ.out⟩
end Go.Proofs.YtpfhljidjnagkaaDoor

/- Contracts of the program of layer 10: inRange, Encode. -/
namespace Go.Proofs.YtpfhljidjnagkaaDoor
open Go.ChangeShapes Go.WideShapes Go.ChangeAt Go.RowKit
set_option linter.unusedVariables false

set_option maxHeartbeats 8000000 in
set_option maxRecDepth 20000 in
theorem pinr10_any (x : EthR) (A : Option Addr) (c : Nat) (w : World) (h : RowL EInt w A x.vl) (hd : x.dst < 18446744073709551616) (hsr : x.src < 18446744073709551616) (hn : x.vl.length ≤ 100000) (ht : TG w) :
    Calls Tryd.prog 25 #[.agg #[.int .u64 (x.dst : Int), .int .u64 (x.src : Int), .slice A x.vl.length c, .int .i64 x.ty, .string (str x.pay)]] w fun e w' => e = .returned (.bool (decide (¬ badE x))) ∧ Below w.heap.size w w' := by
  obtain ⟨V, hV⟩ : ∃ V, V = decide (¬ badE x) := ⟨_, rfl⟩
  rw [← hV]
  have HBAD := Lib.hid (fun (h : badE x) => show V = false from hV.trans (decide_eq_false (fun e => e h)))
  have HGOOD := Lib.hid (fun (h : ¬ badE x) => show V = true from hV.trans (decide_eq_true h))
  have HBDF := Lib.hid (show badE x ↔ (281474976710656 ≤ x.dst ∨ 281474976710656 ≤ x.src ∨ (∃ v ∈ x.vl, v < 0 ∨ 4095 < v) ∨ x.ty < 1536 ∨ 65535 < x.ty ∨ tgN x.ty.toNat) from Iff.rfl)
  have HTG := Lib.hid (fun (W : World) (hb : Below w.heap.size w W) => ht.kept hb)
  clear hV ht
  generalize badE x = BB at *
  obtain ⟨d, sr, vl, ty, pay⟩ := x
  simp only at *
  obtain ⟨n, hnl⟩ : ∃ n, n = vl.length := ⟨_, rfl⟩
  rw [← hnl] at hn ⊢
  obtain ⟨P, hP⟩ : ∃ P, P = str pay := ⟨_, rfl⟩
  rw [← hP]
  have HN := Lib.hid hnl
  have HS := Lib.hid h
  obtain ⟨W1, hW1⟩ : ∃ W, W = w.alloc (.cells #[.int .u64 (d : Int), .int .u64 (sr : Int), .slice A n c, .int .i64 ty, .string P] 26) := ⟨_, rfl⟩
  obtain ⟨g, hg⟩ : ∃ g, g = w.heap.size := ⟨_, rfl⟩
  have HX := Lib.hid (show Cells W1 g 26 #[.int .u64 (d : Int), .int .u64 (sr : Int), .slice A n c, .int .i64 ty, .string P] by rw [hW1, hg]; exact heap_alloc_new w _)
  have HB1 := Lib.hid (show Below w.heap.size w W1 by rw [hW1]; exact below_alloc6 w _)
  have HV0 := Lib.hid (fun (W : World) (hb : Below W1.heap.size W1 W) => box_cell HX.out hb 0 (.int .u64 (d : Int)) rfl)
  have HV1 := Lib.hid (fun (W : World) (hb : Below W1.heap.size W1 W) => box_cell HX.out hb 1 (.int .u64 (sr : Int)) rfl)
  have HV2 := Lib.hid (fun (W : World) (hb : Below W1.heap.size W1 W) => box_cell HX.out hb 2 (.slice A n c) rfl)
  have HV3 := Lib.hid (fun (W : World) (hb : Below W1.heap.size W1 W) => box_cell HX.out hb 3 (.int .i64 ty) rfl)
  have HV4 := Lib.hid (fun (W : World) (hb : Below W1.heap.size W1 W) => box_cell HX.out hb 4 (.string P) rfl)
  have HW := Lib.hid (fun (W : World) (hb : Below W1.heap.size W1 W) => HB1.out.trans (hb.mono HB1.out.size))
  have x0 := HV0.out W1 (Below.refl _ _)
  have x1 := HV1.out W1 (Below.refl _ _)
  have x2 := HV2.out W1 (Below.refl _ _)
  have x3 := HV3.out W1 (Below.refl _ _)
  have x4 := HV4.out W1 (Below.refl _ _)
  clear h hnl hP
  by_cases hbd : 281474976710656 ≤ d ∨ 281474976710656 ≤ sr
  · have hR1 := Lib.hid (HBAD.out (HBDF.out.2 (by rcases hbd with h | h; exact .inl h; exact .inr (.inl h))))
    have HCS : ((281474976710656 : Int) ≤ (d : Int) ∧ decide ((281474976710656 : Int) ≤ (d : Int)) = true) ∨ (¬ (281474976710656 : Int) ≤ (d : Int) ∧ decide ((281474976710656 : Int) ≤ (d : Int)) = false ∧ (281474976710656 : Int) ≤ (sr : Int) ∧ decide ((281474976710656 : Int) ≤ (sr : Int)) = true) := by
      simp only [decide_eq_true_eq, decide_eq_false_iff_not]
      omega
    clear hbd
    rcases HCS with ⟨y1, y2⟩ | ⟨y1, y2, y3, y4⟩
    · go_enter Tryd.func25, Tryd.ntmps25
      go_wp2_with fail
      go_ret
      exact ⟨by rw [hR1.out]; rfl, by rw [← hW1]; exact HB1.out⟩
    · go_enter Tryd.func25, Tryd.ntmps25
      go_wp2_with fail
      go_ret
      exact ⟨by rw [hR1.out]; rfl, by rw [← hW1]; exact HB1.out⟩
  have t0 : decide ((281474976710656 : Int) ≤ (d : Int)) = false := by simp; omega
  have n0 : ¬ (281474976710656 : Int) ≤ (d : Int) := by omega
  have t1 : decide ((281474976710656 : Int) ≤ (sr : Int)) = false := by simp; omega
  have n1 : ¬ (281474976710656 : Int) ≤ (sr : Int) := by omega
  have hd48 : d < 281474976710656 := by omega
  have hs48 : sr < 281474976710656 := by omega
  clear hbd
  go_enter Tryd.func25, Tryd.ntmps25
  go_wp2_with fail
  rw [← hW1, ← hg]
  clear hW1 hg t0 n0 t1 n1
  go_loopw [16] (fun v16 wr => ∃ k : Nat, v16 = .int .i64 k ∧ k ≤ n ∧ Hid (∀ y ∈ vl.take k, 0 ≤ y ∧ y ≤ 4095) ∧ Hid (Below W1.heap.size W1 wr)) (fun v16 _ => n - (intOf v16).toNat)
  case atStart => exact ⟨0, rfl, Nat.zero_le _, Lib.hid (by simp), Lib.hid (Below.refl _ _)⟩
  case round =>
    obtain ⟨k, rfl, hk, HT, HB⟩ := hrel
    have hk0 : (0 : Int) ≤ (k : Int) := by omega
    clear x0 x1 x2 x3 x4
    by_cases hlt : k < n
    · have hki : (k : Int) < (n : Int) := by omega
      have dlt : decide ((k : Int) < (n : Int)) = true := by simp; omega
      obtain ⟨y, hy⟩ : ∃ y, vl[k]? = some y := ⟨vl[k]'(by have := HN.out; omega), List.getElem?_eq_getElem _⟩
      obtain ⟨ga, oa, rfl, hga⟩ := HS.out.shapeA (by have := HN.out; omega)
      have cy := EInt.at_ HS.out hy (HW.out wr HB.out)
      have HY := Lib.hid hy
      have hmem := List.mem_of_getElem? hy
      clear hy
      by_cases hb : y < 0 ∨ 4095 < y
      · have hR1 := Lib.hid (HBAD.out (HBDF.out.2 (.inr (.inr (.inl ⟨y, hmem, hb⟩)))))
        have HBW := Lib.hid (HW.out wr HB.out)
        have HCS : (y < 0 ∧ decide (y < (0 : Int)) = true) ∨ (¬ y < 0 ∧ decide (y < (0 : Int)) = false ∧ 4096 ≤ y ∧ decide ((4096 : Int) ≤ y) = true) := by
          simp only [decide_eq_true_eq, decide_eq_false_iff_not]
          omega
        clear hb hmem
        rcases HCS with ⟨y1, y2⟩ | ⟨y1, y2, y3, y4⟩ <;> (go_wp2_with fail; go_ret; exact ⟨by rw [hR1.out]; rfl, HBW.out⟩)
      · have y2 : decide (y < (0 : Int)) = false := by simp; omega
        have y4 : decide ((4096 : Int) ≤ y) = false := by simp; omega
        have y1 : ¬ y < 0 := by omega
        have y3 : ¬ 4096 ≤ y := by omega
        have HT2 := Lib.hid (show ∀ z ∈ vl.take (k + 1), 0 ≤ z ∧ z ≤ 4095 from by
          obtain ⟨hkl, e⟩ := List.getElem?_eq_some_iff.1 HY.out
          rw [List.take_succ_eq_append_getElem hkl, e]
          intro z hz
          rcases List.mem_append.1 hz with h1 | h1
          · exact HT.out z h1
          · obtain rfl := List.mem_singleton.1 h1
            omega)
        clear hb hmem
        go_wp2_with fail
        go_roundw
        case rel => exact ⟨k + 1, by go_num, by omega, HT2, HB⟩
        case measure => simp [intOf]; omega
    · obtain rfl : k = n := by omega
      have dlt : decide ((k : Int) < (k : Int)) = false := by simp
      have nlt : ¬ (k : Int) < (k : Int) := by omega
      have HALL := Lib.hid (show ∀ y ∈ vl, 0 ≤ y ∧ y ≤ 4095 from by
        have := HT.out
        rwa [List.take_of_length_le (by have := HN.out; omega)] at this)
      have HBW := Lib.hid (HW.out wr HB.out)
      have x3 := HV3.out wr HB.out
      clear HT
      by_cases ht1 : ty < 1536 ∨ 65535 < ty
      · have hR1 := Lib.hid (HBAD.out (HBDF.out.2 (by rcases ht1 with h | h; exact .inr (.inr (.inr (.inl h))); exact .inr (.inr (.inr (.inr (.inl h)))))))
        have HCS : (¬ 1536 ≤ ty ∧ decide ((1536 : Int) ≤ ty) = false) ∨ (1536 ≤ ty ∧ decide ((1536 : Int) ≤ ty) = true ∧ ¬ ty ≤ 65535 ∧ decide (ty ≤ (65535 : Int)) = false) := by
          simp only [decide_eq_true_eq, decide_eq_false_iff_not]
          omega
        clear ht1
        rcases HCS with ⟨y1, y2⟩ | ⟨y1, y2, y3, y4⟩ <;> (go_wp2_with fail; go_ret; exact ⟨by rw [hR1.out]; rfl, HBW.out⟩)
      · obtain ⟨T, rfl⟩ : ∃ T : Nat, ty = (T : Int) := ⟨ty.toNat, by omega⟩
        have z1 : (1536 : Int) ≤ (T : Int) := by omega
        have z2 : decide ((1536 : Int) ≤ (T : Int)) = true := by simp; omega
        have z3 : (T : Int) ≤ (65535 : Int) := by omega
        have z4 : decide ((T : Int) ≤ (65535 : Int)) = true := by simp; omega
        have hta := ptag_any (T : Int) wr (HTG.out wr HBW.out)
        have hty := HBDF.out
        rw [Int.toNat_natCast] at hty
        by_cases htg : tgN T
        · have hR1 := Lib.hid (HBAD.out (hty.2 (.inr (.inr (.inr (.inr (.inr htg)))))))
          rw [decide_eq_true ((tgI_nat T).2 htg)] at hta
          have HTA := Lib.hid hta
          clear htg ht1 hty hta
          go_wp2_with fail
          refine HTA.out.mono ?_
          rintro e w5 ⟨rfl, rfl⟩
          go_wp2_with fail
          go_ret
          exact ⟨by rw [hR1.out]; rfl, HBW.out⟩
        · have hnb : ¬ BB := fun h => by
            rcases hty.1 h with h | h | ⟨y, hy, h⟩ | h | h | h
            · omega
            · omega
            · have := HALL.out y hy; omega
            · omega
            · omega
            · exact htg h
          have hR1 := Lib.hid (HGOOD.out hnb)
          rw [decide_eq_false (fun e => htg ((tgI_nat T).1 e))] at hta
          have HTA := Lib.hid hta
          clear htg ht1 hty hta hnb
          go_wp2_with fail
          refine HTA.out.mono ?_
          rintro e w5 ⟨rfl, rfl⟩
          go_wp2_with fail
          go_ret
          exact ⟨by rw [hR1.out]; rfl, HBW.out⟩
set_option maxHeartbeats 8000000 in
set_option maxRecDepth 20000 in
theorem penc10_any (x : EthR) (A : Option Addr) (c : Nat) (w : World) (h : RowL EInt w A x.vl) (hc : A = none → c = 0) (hw1 : x.dst < 18446744073709551616) (hw2 : x.src < 18446744073709551616) (hn : x.vl.length ≤ 1000) (hp : x.pay.length ≤ 1000000) (ht : TG w) :
    Calls Tryd.prog 12 #[.agg #[.int .u64 (x.dst : Int), .int .u64 (x.src : Int), .slice A x.vl.length c, .int .i64 x.ty, .string (str x.pay)]] w fun e w' => e = .returned (.tuple #[.string (str (encE x).1), .int .i64 ((encE x).2 : Int)]) ∧ Below w.heap.size w w' := by
  obtain ⟨R, hR⟩ : ∃ R, R = encE x := ⟨_, rfl⟩
  rw [← hR]
  have HINR := Lib.hid (fun (W : World) (hb : Below w.heap.size w W) => pinr10_any x A c W (h.kept hb) hw1 hw2 (by omega) (ht.kept hb))
  have HBAD := Lib.hid (fun (h : badE x) => show R = ([], 4) from hR.trans (bad_of h))
  have HGOOD := Lib.hid (fun (h : ¬ badE x) => show R = if 2 < x.vl.length then ([], 9) else if 4096 < (bodyE x).length then ([], 3) else (bodyE x, 0) from by rw [hR]; unfold encE; rw [if_neg h])
  have HBE := Lib.hid (show bodyE x = beL 6 x.dst ++ beL 6 x.src ++ tagsB x.vl x.vl.length ++ (beL 2 x.ty.toNat ++ x.pay) from rfl)
  have HBDF := Lib.hid (show badE x ↔ (281474976710656 ≤ x.dst ∨ 281474976710656 ≤ x.src ∨ (∃ v ∈ x.vl, v < 0 ∨ 4095 < v) ∨ x.ty < 1536 ∨ 65535 < x.ty ∨ tgN x.ty.toNat) from Iff.rfl)
  have HTG := Lib.hid (fun (W : World) (hb : Below w.heap.size w W) => ht.kept hb)
  by_cases hbb : badE x
  · have hR1 := Lib.hid (HBAD.out hbb)
    rw [decide_eq_false (fun e => e hbb)] at HINR
    clear hbb hR HBAD HGOOD HBE HBDF ht HTG
    obtain ⟨d, sr, vl, ty, pay⟩ := x
    simp only at *
    generalize vl.length = n at *
    generalize str pay = P at *
    obtain ⟨W1, hW1⟩ : ∃ W, W = w.alloc (.cells #[.int .u64 (d : Int), .int .u64 (sr : Int), .slice A n c, .int .i64 ty, .string P] 26) := ⟨_, rfl⟩
    obtain ⟨g, hg⟩ : ∃ g, g = w.heap.size := ⟨_, rfl⟩
    have HX := Lib.hid (show Cells W1 g 26 #[.int .u64 (d : Int), .int .u64 (sr : Int), .slice A n c, .int .i64 ty, .string P] by rw [hW1, hg]; exact heap_alloc_new w _)
    have HB1 := Lib.hid (show Below w.heap.size w W1 by rw [hW1]; exact below_alloc6 w _)
    have HV0 := Lib.hid (fun (W : World) (hb : Below W1.heap.size W1 W) => box_cell HX.out hb 0 (.int .u64 (d : Int)) rfl)
    have HV1 := Lib.hid (fun (W : World) (hb : Below W1.heap.size W1 W) => box_cell HX.out hb 1 (.int .u64 (sr : Int)) rfl)
    have HV2 := Lib.hid (fun (W : World) (hb : Below W1.heap.size W1 W) => box_cell HX.out hb 2 (.slice A n c) rfl)
    have HV3 := Lib.hid (fun (W : World) (hb : Below W1.heap.size W1 W) => box_cell HX.out hb 3 (.int .i64 ty) rfl)
    have HV4 := Lib.hid (fun (W : World) (hb : Below W1.heap.size W1 W) => box_cell HX.out hb 4 (.string P) rfl)
    have HW := Lib.hid (fun (W : World) (hb : Below W1.heap.size W1 W) => HB1.out.trans (hb.mono HB1.out.size))
    have x0 := HV0.out W1 (Below.refl _ _)
    have x1 := HV1.out W1 (Below.refl _ _)
    have x2 := HV2.out W1 (Below.refl _ _)
    have x3 := HV3.out W1 (Below.refl _ _)
    have x4 := HV4.out W1 (Below.refl _ _)
    clear hn hp
    go_enter Tryd.func12, Tryd.ntmps12
    go_wp2_with fail
    rw [← hW1]
    refine (HINR.out W1 HB1.out).mono ?_
    rintro e w2 ⟨rfl, hb2⟩
    have HB2 := Lib.hid (HB1.out.trans (hb2.mono HB1.out.size))
    clear hb2 HINR
    go_wp2_with fail
    go_ret2
    exact ⟨by rw [hR1.out]; rfl, HB2.out⟩
  have hdf := HBDF.out
  have HGD := Lib.hid (HGOOD.out hbb)
  rw [decide_eq_true hbb] at HINR
  have hnot := fun e => hbb (hdf.2 e)
  clear hbb hdf hR HBAD HGOOD HBDF
  generalize bodyE x = BD at *
  obtain ⟨d, sr, vl, ty, pay⟩ := x
  simp only at *
  have hd48 : d < 281474976710656 := by
    apply Decidable.byContradiction
    intro hh
    exact hnot (.inl (by omega))
  have hs48 : sr < 281474976710656 := by
    apply Decidable.byContradiction
    intro hh
    exact hnot (.inr (.inl (by omega)))
  have HALL := Lib.hid (show ∀ y ∈ vl, 0 ≤ y ∧ y ≤ 4095 from fun y hy => by
    apply Decidable.byContradiction
    intro hh
    exact hnot (.inr (.inr (.inl ⟨y, hy, by omega⟩))))
  obtain ⟨T, rfl⟩ : ∃ T : Nat, ty = (T : Int) := ⟨ty.toNat, by
    have h1 : ¬ ty < 1536 := fun hh => hnot (.inr (.inr (.inr (.inl hh))))
    omega⟩
  have hT6 : T < 65536 := by
    apply Decidable.byContradiction
    intro hh
    exact hnot (.inr (.inr (.inr (.inr (.inl (by omega))))))
  rw [Int.toNat_natCast] at HBE
  obtain ⟨n, hnl⟩ : ∃ n, n = vl.length := ⟨_, rfl⟩
  rw [← hnl] at hn HGD HBE HINR ⊢
  obtain ⟨P, hP⟩ : ∃ P, P = str pay := ⟨_, rfl⟩
  have HPS9 := Lib.hid (show P.size = pay.length by rw [hP, str_size])
  rw [← hP] at HINR ⊢
  have HPP := Lib.hid hP
  have HN := Lib.hid hnl
  have HS := Lib.hid h
  have HHP := Lib.hid hp
  obtain ⟨W1, hW1⟩ : ∃ W, W = w.alloc (.cells #[.int .u64 (d : Int), .int .u64 (sr : Int), .slice A n c, .int .i64 (T : Int), .string P] 26) := ⟨_, rfl⟩
  obtain ⟨g, hg⟩ : ∃ g, g = w.heap.size := ⟨_, rfl⟩
  have HX := Lib.hid (show Cells W1 g 26 #[.int .u64 (d : Int), .int .u64 (sr : Int), .slice A n c, .int .i64 (T : Int), .string P] by rw [hW1, hg]; exact heap_alloc_new w _)
  have HB1 := Lib.hid (show Below w.heap.size w W1 by rw [hW1]; exact below_alloc6 w _)
  have HV0 := Lib.hid (fun (W : World) (hb : Below W1.heap.size W1 W) => box_cell HX.out hb 0 (.int .u64 (d : Int)) rfl)
  have HV1 := Lib.hid (fun (W : World) (hb : Below W1.heap.size W1 W) => box_cell HX.out hb 1 (.int .u64 (sr : Int)) rfl)
  have HV2 := Lib.hid (fun (W : World) (hb : Below W1.heap.size W1 W) => box_cell HX.out hb 2 (.slice A n c) rfl)
  have HV3 := Lib.hid (fun (W : World) (hb : Below W1.heap.size W1 W) => box_cell HX.out hb 3 (.int .i64 (T : Int)) rfl)
  have HV4 := Lib.hid (fun (W : World) (hb : Below W1.heap.size W1 W) => box_cell HX.out hb 4 (.string P) rfl)
  have HW := Lib.hid (fun (W : World) (hb : Below W1.heap.size W1 W) => HB1.out.trans (hb.mono HB1.out.size))
  have x0 := HV0.out W1 (Below.refl _ _)
  have x1 := HV1.out W1 (Below.refl _ _)
  have x2 := HV2.out W1 (Below.refl _ _)
  have x3 := HV3.out W1 (Below.refl _ _)
  have x4 := HV4.out W1 (Below.refl _ _)
  clear h hnl hP hnot ht hp hc
  go_enter Tryd.func12, Tryd.ntmps12
  go_wp2_with fail
  rw [← hW1]
  refine (HINR.out W1 HB1.out).mono ?_
  rintro e w2 ⟨rfl, hb2⟩
  rw [← hg]
  clear hW1 hg x0 x1 x2 x3 x4 HINR
  have HB2 := Lib.hid hb2
  have x2 := HV2.out w2 hb2
  clear hb2
  by_cases h2 : 2 < n
  · have hR1 := Lib.hid (show R = ([], 9) by rw [HGD.out, if_pos h2])
    have HBW := Lib.hid (HW.out w2 HB2.out)
    have e2 : decide ((2 : Int) < (n : Int)) = true := by simp; omega
    have i2 : (2 : Int) < (n : Int) := by omega
    clear h2
    go_wp2_with fail
    go_ret2
    exact ⟨by rw [hR1.out]; rfl, HBW.out⟩
  have HG2 := Lib.hid (show R = if 4096 < BD.length then ([], 3) else (BD, 0) by rw [HGD.out, if_neg h2])
  have e2 : decide ((2 : Int) < (n : Int)) = false := by simp; omega
  have i2 : ¬ (2 : Int) < (n : Int) := by omega
  have hk2 : n ≤ 2 := by omega
  have HPD := Lib.hid (fun (W : World) => pputB_any 6 d (d : Int) 6 rfl rfl (by decide) (by decide) (by omega) (by omega) W)
  have HPS := Lib.hid (fun (W : World) => pputB_any 6 sr (sr : Int) 6 rfl rfl (by decide) (by decide) (by omega) (by omega) W)
  have cd : IntKind.i64.wrap (d : Int) = (d : Int) := by rw [IntKind.wrap_i64]; omega
  have cs : IntKind.i64.wrap (sr : Int) = (sr : Int) := by rw [IntKind.wrap_i64]; omega
  have HPT := Lib.hid (fun (W : World) => pputB_any 2 T (T : Int) 2 rfl rfl (by decide) (by decide) (by omega) (by omega) W)
  have HTA := Lib.hid (fun (t : Nat) (h : t < 65536) (W : World) => pputB_any 2 t (t : Int) 2 rfl rfl (by decide) (by decide) (by omega) (by omega) W)
  have HTV := Lib.hid (fun (y : Int) (hy : y ∈ vl) (W : World) => pputB_any 2 y.toNat y 2 (by have := HALL.out y hy; omega) rfl (by decide) (by decide) (by have := HALL.out y hy; omega) (by have := HALL.out y hy; omega) W)
  clear h2 HGD
  go_wp2_with fail
  have s6 : (str (beL 6 d)).size ≤ 6 := by rw [str_size, beL_len]; omega
  have s6' : (str (beL 6 sr)).size ≤ 6 := by rw [str_size, beL_len]; omega
  have q0 := add_ok10 s6 s6' (by omega)
  have HE0 := Lib.hid (show str (beL 6 d) ++ str (beL 6 sr) = str (beL 6 d ++ beL 6 sr ++ tagsB vl 0) by rw [str_append]; simp [tagsB])
  have HBE2 := Lib.hid (show BD = beL 6 d ++ beL 6 sr ++ tagsB vl n ++ (beL 2 T ++ pay) from HBE.out)
  have HLEN := Lib.hid (show ∀ j, (beL 6 d ++ beL 6 sr ++ tagsB vl j).length = 12 + 4 * j from fun j => by simp only [List.length_append, beL_len, tagsB_len])
  clear HBE s6 s6'
  generalize hbd : beL 6 d = bd at *
  generalize hbs : beL 6 sr = bs at *
  generalize hbt : beL 2 T = bt at *
  have HBT := Lib.hid (show bt.length = 2 by rw [← hbt, beL_len])
  clear hbd hbs hbt
  obtain ⟨D6, hD6⟩ : ∃ D, D = str bd := ⟨_, rfl⟩
  obtain ⟨S6, hS6⟩ : ∃ D, D = str bs := ⟨_, rfl⟩
  rw [← hD6] at HPD HE0 q0
  rw [← hS6] at HPS HE0 q0
  clear hD6 hS6
  refine wp_region_pick (fun w' => Below w2.heap.size w2 w') (by kernel_rfl) (by kernel_rfl) (Below.refl _ _) ⟨rfl, rfl, rfl, Nat.le_refl _, fun _ _ => rfl⟩ (fun pw hp hq => ?_)
  have pp0 : ∀ u, (pw u).cell? ⟨g, 0, none⟩ = some (.int .u64 (d : Int)) := fun u => HV0.out _ (HB2.out.trans ((hp u).mono HB2.out.size))
  have pp1 : ∀ u, (pw u).cell? ⟨g, 1, none⟩ = some (.int .u64 (sr : Int)) := fun u => HV1.out _ (HB2.out.trans ((hp u).mono HB2.out.size))
  have HP := Lib.hid hp
  have HQ := Lib.hid hq
  clear hp hq
  repeat (go_big_quiet_step ((first | with_reducible exact Calls.pick_of HQ.out (fun W' hb => (HP.out _).trans (hb.mono (HP.out _).size)) (HPD.out _) | with_reducible exact Calls.pick_of HQ.out (fun W' hb => (HP.out _).trans (hb.mono (HP.out _).size)) (HPS.out _))))
  refine wpQuiet_nil ?_
  rintro _ ⟨u, rfl⟩
  have HB6 := Lib.hid (HB2.out.trans ((HP.out u).mono HB2.out.size))
  generalize pw u = w6 at *
  clear HP HQ pp0 pp1 HB2 x2 HPD HPS q0 cd cs
  have x2 := HV2.out w6 HB6.out
  go_wp2_with fail
  obtain ⟨OS, hOS⟩ : ∃ O, O = D6 ++ S6 := ⟨_, rfl⟩
  rw [← hOS]
  have HE1 := Lib.hid (hOS.trans HE0.out)
  clear HE0 x2 hOS
  go_loopw [4, 27] (fun v4 v27 wr => ∃ j : Nat, v4 = .string (str (bd ++ bs ++ tagsB vl j)) ∧ v27 = .int .i64 j ∧ j ≤ n ∧ Hid (Below W1.heap.size W1 wr)) (fun _ v27 _ => n - (intOf v27).toNat)
  case atStart => exact ⟨0, by rw [HE1.out], rfl, Nat.zero_le _, HB6⟩
  case round =>
    clear HB6 HE1
    obtain ⟨j, rfl, rfl, hj, HB⟩ := hrel
    have hj0 : (0 : Int) ≤ (j : Int) := by omega
    have x2 := HV2.out wr HB.out
    have hOs : (str (bd ++ bs ++ tagsB vl j)).size ≤ 20 := by rw [str_size, HLEN.out]; omega
    by_cases hlt : j < n
    · have hji : (j : Int) < (n : Int) := by omega
      have dlt : decide ((j : Int) < (n : Int)) = true := by simp; omega
      obtain ⟨y, hy⟩ : ∃ y, vl[j]? = some y := ⟨vl[j]'(by have := HN.out; omega), List.getElem?_eq_getElem _⟩
      obtain ⟨ga, oa, rfl, hga⟩ := HS.out.shapeA (by have := HN.out; omega)
      have hmem := List.mem_of_getElem? hy
      have HPY := Lib.hid (HTV.out y hmem)
      have cy := EInt.at_ HS.out hy (HW.out wr HB.out)
      have HTN := Lib.hid (tagsB_next hy)
      clear hmem hy
      obtain ⟨nm, hnm⟩ : ∃ nm, nm = n - 1 := ⟨_, rfl⟩
      have hnmi : (n : Int) - 1 = (nm : Int) := by omega
      obtain ⟨af, haf⟩ : ∃ af, af = nm - j := ⟨_, rfl⟩
      have hafi : (nm : Int) - (j : Int) = (af : Int) := by omega
      have ha0 : (0 : Int) ≤ (af : Int) := by omega
      have ha2 : (af : Int) < (2 : Int) := by omega
      have haf2 : af < 2 := by omega
      obtain ⟨t, ct, ht6, htt⟩ : ∃ t : Nat, wr.cell? ⟨0, af, none⟩ = some (.int .i64 (t : Int)) ∧ t < 65536 ∧ t = if j + 1 = vl.length then 33024 else 34984 := by
        have htg := HTG.out wr (HW.out wr HB.out)
        by_cases h1 : j + 1 = vl.length
        · rw [show af = 0 by have := HN.out; omega]
          exact ⟨33024, htg.t0, by decide, by rw [if_pos h1]⟩
        · rw [show af = 1 by have := HN.out; omega]
          exact ⟨34984, htg.t1, by decide, by rw [if_neg h1]⟩
      have HP1 := Lib.hid (HTA.out t ht6)
      have HNX := Lib.hid (show str (bd ++ bs ++ tagsB vl j) ++ (str (beL 2 t) ++ str (beL 2 y.toNat)) = str (bd ++ bs ++ tagsB vl (j + 1)) by
        rw [HTN.out]
        unfold tagB
        rw [← htt, str_append, str_append]
        simp only [List.append_assoc])
      have s2 : (str (beL 2 y.toNat)).size ≤ 2 := by rw [str_size, beL_len]; omega
      have s1 : (str (beL 2 t)).size ≤ 2 := by rw [str_size, beL_len]; omega
      have q1 := add_ok10 s1 s2 (by omega)
      have q2 := add_ok10 hOs (app_le10 s1 s2) (by omega)
      have q3 : (9223372036854775807 < (str (bd ++ bs ++ tagsB vl j)).size + ((str (beL 2 t)).size + (str (beL 2 y.toNat)).size)) = False := by simp only [eq_iff_iff, iff_false]; omega
      clear HTN hnm haf HTV HTA htt
      obtain ⟨O, hO⟩ : ∃ O, O = str (bd ++ bs ++ tagsB vl j) := ⟨_, rfl⟩
      obtain ⟨Y2, hY2⟩ : ∃ O, O = str (beL 2 y.toNat) := ⟨_, rfl⟩
      obtain ⟨T2, hT2⟩ : ∃ O, O = str (beL 2 t) := ⟨_, rfl⟩
      rw [← hO] at HNX q2 q3 ⊢
      rw [← hY2] at HPY HNX q1 q2 q3
      rw [← hT2] at HP1 HNX q1 q2 q3
      clear hO hY2 hT2 s1 s2 hOs
      go_wp2_with fail
      refine (HP1.out _).mono ?_
      rintro e w7 ⟨rfl, hb7⟩
      have HB7 := Lib.hid (HB.out.trans (hb7.mono HB.out.size))
      clear hb7 HP1
      go_wp2_with fail
      refine (HPY.out _).mono ?_
      rintro e w8 ⟨rfl, hb8⟩
      have HB8 := Lib.hid (HB7.out.trans (hb8.mono HB7.out.size))
      clear hb8 HPY HB7
      go_wp2_with fail
      go_roundw
      case rel => exact ⟨j + 1, by rw [← HNX.out], by go_num, by omega, HB8⟩
      case measure => simp [intOf]; omega
    · obtain rfl : j = n := by omega
      have dlt : decide ((j : Int) < (j : Int)) = false := by simp
      have nlt : ¬ (j : Int) < (j : Int) := by omega
      have sT : (str bt).size ≤ 2 := by rw [str_size, HBT.out]; omega
      have HFIN := Lib.hid (show str (bd ++ bs ++ tagsB vl j) ++ str bt ++ P = str BD by
        rw [HPP.out, HBE2.out, str_append, str_append]
        simp only [List.append_assoc])
      have q1 := add_ok10 hOs sT (by omega)
      have hP6 : P.size ≤ 1000000 := by have := HPS9.out; have := HHP.out; omega
      have q2 := add_ok10 (app_le10 hOs sT) hP6 (by omega)
      have q3 : (9223372036854775807 < (str (bd ++ bs ++ tagsB vl j)).size + (str bt).size + P.size) = False := by simp only [eq_iff_iff, iff_false]; omega
      have hBs : (str (bd ++ bs ++ tagsB vl j) ++ str bt ++ P).size = BD.length := by rw [HFIN.out, str_size]
      have hBs2 : (str (bd ++ bs ++ tagsB vl j)).size + (str bt).size + P.size = BD.length := by rw [← hBs, ByteArray.size_append, ByteArray.size_append]
      have hBs3 : (str (bd ++ bs ++ tagsB vl j) ++ str bt).size + P.size = BD.length := by rw [← hBs2, ByteArray.size_append]
      obtain ⟨O, hO⟩ : ∃ O, O = str (bd ++ bs ++ tagsB vl j) := ⟨_, rfl⟩
      obtain ⟨BT, hbT⟩ : ∃ O, O = str bt := ⟨_, rfl⟩
      rw [← hO] at HFIN q1 q2 q3 hBs hBs2 hBs3 hOs ⊢
      rw [← hbT] at HPT HFIN q1 q2 q3 hBs hBs2 hBs3 sT
      have HBS2 := Lib.hid hBs2
      have HBS3 := Lib.hid hBs3
      have x3 := HV3.out wr HB.out
      clear hO hbT HTV HTA hBs hBs2 hBs3
      go_wp2_with fail
      refine (HPT.out _).mono ?_
      rintro e w7 ⟨rfl, hb7⟩
      have HB7 := Lib.hid (HB.out.trans (hb7.mono HB.out.size))
      have x4 := HV4.out w7 HB7.out
      have HBW := Lib.hid (HW.out w7 HB7.out)
      clear hb7 HPT x2 x3
      by_cases hl : 4096 < BD.length
      · have hR1 := Lib.hid (show R = ([], 3) by rw [HG2.out, if_pos hl])
        have dl : decide ((4096 : Int) < ((O ++ BT).size : Int) + (P.size : Int)) = true := decide_eq_true (by have := HBS3.out; omega)
        have il : (4096 : Int) < ((O ++ BT).size : Int) + (P.size : Int) := by have := HBS3.out; omega
        have il2 : (4096 : Int) < (O.size : Int) + (BT.size : Int) + (P.size : Int) := by have := HBS2.out; omega
        have nn2 : 4096 < O.size + BT.size + P.size := by have := HBS2.out; omega
        have dn2 : decide (4096 < O.size + BT.size + P.size) = true := decide_eq_true nn2
        have nn3 : 4096 < (O ++ BT).size + P.size := by have := HBS3.out; omega
        clear hl
        go_wp2_with fail
        go_ret2
        exact ⟨by rw [hR1.out]; rfl, HBW.out⟩
      · have hR1 := Lib.hid (show R = (BD, 0) by rw [HG2.out, if_neg hl])
        have dl : decide ((4096 : Int) < ((O ++ BT).size : Int) + (P.size : Int)) = false := decide_eq_false (by have := HBS3.out; omega)
        have il : ¬ (4096 : Int) < ((O ++ BT).size : Int) + (P.size : Int) := by have := HBS3.out; omega
        have il2 : ¬ (4096 : Int) < (O.size : Int) + (BT.size : Int) + (P.size : Int) := by have := HBS2.out; omega
        have nn2 : ¬ 4096 < O.size + BT.size + P.size := by have := HBS2.out; omega
        have dn2 : decide (4096 < O.size + BT.size + P.size) = false := decide_eq_false nn2
        have nn3 : ¬ 4096 < (O ++ BT).size + P.size := by have := HBS3.out; omega
        clear hl
        go_wp2_with fail
        go_ret2
        exact ⟨by rw [hR1.out, HFIN.out]; rfl, HBW.out⟩
end Go.Proofs.YtpfhljidjnagkaaDoor

/- Contracts of the reference of layer 6: Next, Previous. -/
namespace Go.Proofs.YtpfhljidjnagkaaDoor
open Go.ChangeShapes Go.WideShapes Go.ChangeAt Go.RowKit
set_option linter.unusedVariables false

/-- An address, or none, as a result with its flag. -/
def aRes : Option (Bool × Nat × Nat) → Value
  | some (v6, hi, lo) => .tuple #[.agg #[.bool v6, .int .u64 hi, .int .u64 lo], .bool true]
  | none => .tuple #[.agg #[.bool false, .int .u64 0, .int .u64 0], .bool false]
def nxtA (v6 : Bool) (hi lo : Nat) : Option (Bool × Nat × Nat) :=
  if lo + 1 < 18446744073709551616 then (if v6 = false ∧ lo + 1 = 4294967296 then none else some (v6, hi, lo + 1))
  else if v6 then (if hi + 1 < 18446744073709551616 then some (v6, hi + 1, 0) else none) else some (v6, hi, 0)
def prvA (v6 : Bool) (hi lo : Nat) : Option (Bool × Nat × Nat) :=
  if lo = 0 then (if hi = 0 then none else some (v6, hi - 1, 18446744073709551615)) else some (v6, hi, lo - 1)
theorem below2 (w : World) (a b : Obj) : Below w.heap.size w ((w.alloc a).alloc b) := (below_alloc6 w a).trans ((below_alloc6 _ b).mono (by simp))
theorem wrap_u64_up {n : Nat} (h : n + 1 = 18446744073709551616) : IntKind.u64.wrap ((n : Int) + 1) = 0 := by
  simp [IntKind.wrap, IntKind.bits, IntKind.signed]; omega
theorem wrap_u64_in {n : Int} (h0 : 0 ≤ n) (h : n < 18446744073709551616) : IntKind.u64.wrap n = n := by
  simp [IntKind.wrap, IntKind.bits, IntKind.signed]; omega
end Go.Proofs.YtpfhljidjnagkaaDoor

/- Contracts of the program of layer 10: strconv.ParseUint, strings.SplitN as they are met, ParseMac. -/
namespace Go.Proofs.YtpfhljidjnagkaaDoor
open Go.ChangeShapes Go.WideShapes Go.ChangeAt Go.RowKit
set_option linter.unusedVariables false

/-- The variables of Go's library that ParseMac reads. -/
structure TS (w : World) : Prop where
  mx : ∃ m, w.cell? ⟨3, 0, none⟩ = some (.int .i64 m)
  sy : ∃ t p, w.cell? ⟨1, 0, none⟩ = some (.iface t p)
  rg : ∃ t p, w.cell? ⟨2, 0, none⟩ = some (.iface t p)
theorem cell_kept10 {w w' : World} {g i : Nat} {v : Value} (h : w.cell? ⟨g, i, none⟩ = some v) (hb : Below w.heap.size w w') : w'.cell? ⟨g, i, none⟩ = some v :=
  (World.cell?_of_block (w := w) (w' := w') (a := ⟨g, i, none⟩) (hb.block _ (lt_of_cell10 h))).trans h
theorem TS.kept {w w' : World} (h : TS w) (hb : Below w.heap.size w w') : TS w' := by
  obtain ⟨⟨m, h1⟩, ⟨t, p, h2⟩, ⟨u, q, h3⟩⟩ := h
  exact ⟨⟨m, cell_kept10 h1 hb⟩, ⟨t, p, cell_kept10 h2 hb⟩, ⟨u, q, cell_kept10 h3 hb⟩⟩
theorem or8_u64 (a b : Nat) (h1 : a * 256 < 18446744073709551616) (h2 : b < 256) : bits .or .u64 ((a : Int) * 256) (b : Int) = ((a * 256 + b : Nat) : Int) := by
  have nn : ∀ x : Nat, x < 2 ^ 64 → (BitVec.ofInt 64 (x : Int)).toNat = x := fun x hx => by
    rw [BitVec.ofInt_natCast, BitVec.toNat_ofNat]
    exact Nat.mod_eq_of_lt (by omega)
  have e : a * 256 ||| b = a * 256 + b := by
    have h := Nat.shiftLeft_add_eq_or_of_lt (i := 8) (b := b) (by omega) a
    rw [Nat.shiftLeft_eq, show 2 ^ 8 = 256 from rfl] at h
    omega
  rw [show ((a : Int) * 256) = ((a * 256 : Nat) : Int) by omega]
  show IntKind.u64.wrap ((BitVec.ofInt 64 ((a * 256 : Nat) : Int) ||| BitVec.ofInt 64 (b : Int)).toNat : Int) = _
  rw [BitVec.toNat_or, nn _ (by omega), nn _ (by omega), e]
  exact wrap_u64_in (by omega) (by omega)
/-- SplitN at colons, seven parts at most. -/
theorem psplitN10 (S : List UInt8) (w : World) (hs : S.length ≤ 1000000) (ht : TS w) :
    Calls Tryd.prog 28 #[.string (str S), .string ⟨#[58]⟩, .int .i64 7] w fun e w' => ∃ c, e = .returned (.slice (some ⟨w.heap.size, 0, none⟩) (ptsN S).length c) ∧ (∀ (i : Nat) (p : List UInt8), (ptsN S)[i]? = some p → w'.cell? ⟨w.heap.size, i, none⟩ = some (.string (str p))) ∧ w.heap.size < w'.heap.size ∧ Below w.heap.size w w' := by
  obtain ⟨m, hm⟩ := ht.mx
  have hz := str_size S
  refine (lib_strings_SplitN (str S) ⟨#[58]⟩ 7 m w (by omega) hm (Nat.le_refl 1) (by decide) (by decide)).mono ?_
  rintro e w' ⟨rfl, rfl⟩
  have hd := Lib.splitB_data ⟨#[58]⟩ 0 (min 7 ((str S).size + 1) - 1) (str S)
  rw [str_toList, hz] at hd
  have hP : (Lib.splitB ⟨#[58]⟩ 0 (min 7 (S.length + 1) - 1) (str S)).map (·.data.toList) = ptsN S := hd
  rw [hz]
  generalize Lib.splitB ⟨#[58]⟩ 0 (min 7 (S.length + 1) - 1) (str S) = Q at *
  have hl : Q.length = (ptsN S).length := by rw [← hP, List.length_map]
  refine ⟨_, by rw [hl], fun i p h => ?_, alloc_lt6 w _, below_alloc6 w _⟩
  rw [World.cell?_alloc_at _ _ _ _ rfl]
  rw [← hP, List.getElem?_map] at h
  cases hq : Q[i]? with
  | none => rw [hq] at h; cases h
  | some q =>
    rw [hq] at h
    have e : q.data.toList = p := Option.some.inj h
    have hi : i < Q.length := (List.getElem?_eq_some_iff.1 hq).1
    unfold Lib.cellsOf
    rw [List.getElem?_toArray, List.getElem?_append_left (by simpa using hi), List.getElem?_map, hq, ← e, str_of]
    rfl
/-- What strconv.ParseUint answers. -/
def PPU (p : List UInt8) (w : World) (e : Ending) (w' : World) : Prop :=
  Below w.heap.size w w' ∧ ∃ (u : Int) (ev : Value), e = .returned (.tuple #[.int .u64 u, ev]) ∧ ((∃ n : Nat, pUint p = some n ∧ n ≤ 255 ∧ u = (n : Int) ∧ ev = .nilIface) ∨ (pUint p = none ∧ ∃ t a, ev = .iface t (.pointer (some a))))
set_option maxHeartbeats 4000000 in
set_option maxRecDepth 20000 in
theorem ppuint_any (p : List UInt8) (w : World) (hs : p.length ≤ 1000000) (ht : TS w) :
    Calls Tryd.prog 29 #[.string (str p), .int .i64 16, .int .i64 8] w (PPU p w) := by
  have hz := str_size p
  have HI := Lib.hid (piuint_any (str p) (by omega) w)
  have hlim : (str p).size ≤ 281474976710656 := by omega
  have HT := Lib.hid ht
  have HTL := Lib.hid (str_toList p)
  generalize str p = s at *
  clear hz ht
  go_enter Tryd.func29, Tryd.ntmps29
  go_wp2_with fail
  refine HI.out.mono ?_
  rintro e w1 ⟨hb, ⟨n, h1, h2, rfl⟩ | ⟨h1, n, k, hk, rfl⟩⟩
  · have HB := Lib.hid hb
    have HN := Lib.hid (And.intro h1 h2)
    clear hb h1 h2 HI
    go_wp2_with fail
    go_ret2
    exact ⟨HB.out, _, _, rfl, .inl ⟨n, by have := HN.out.1; rwa [HTL.out] at this, HN.out.2, rfl, rfl⟩⟩
  · have HB := Lib.hid hb
    have HN := Lib.hid h1
    have HT1 := Lib.hid (HT.out.kept hb)
    clear hb h1 HI HT
    rcases hk with rfl | rfl
    · have HE := Lib.hid (fun (W : World) (h : TS W) => show Calls Tryd.prog 41 #[.string ⟨#[80, 97, 114, 115, 101, 85, 105, 110, 116]⟩, .string s, .int .i64 16, .int .i64 8, .iface 70 (.int .i64 1)] W fun e w' => ∃ N, e = .returned (.iface 72 (.pointer (some ⟨N, 0, none⟩))) ∧ Below W.heap.size W w' from by
        obtain ⟨t, p, h2⟩ := h.rg
        exact (lib_strconv_toError_range _ s 16 8 _ W hlim h2 (.inr ⟨t, p, rfl⟩)).mono fun e w' ⟨N, h1, _, _, h4⟩ => ⟨N, h1, h4⟩)
      go_wp2_with fail
      refine (HE.out _ HT1.out).mono ?_
      rintro e w2 ⟨N, rfl, hb2⟩
      have HB2 := Lib.hid (HB.out.trans (hb2.mono HB.out.size))
      clear hb2 HB HT1 HE
      go_wp2_with fail
      go_ret2
      exact ⟨HB2.out, _, _, rfl, .inr ⟨by have := HN.out; rwa [HTL.out] at this, _, _, rfl⟩⟩
    · have HE := Lib.hid (fun (W : World) (h : TS W) => show Calls Tryd.prog 41 #[.string ⟨#[80, 97, 114, 115, 101, 85, 105, 110, 116]⟩, .string s, .int .i64 16, .int .i64 8, .iface 70 (.int .i64 2)] W fun e w' => ∃ N, e = .returned (.iface 72 (.pointer (some ⟨N, 0, none⟩))) ∧ Below W.heap.size W w' from by
        obtain ⟨t, p, h2⟩ := h.sy
        exact (lib_strconv_toError_syntax _ s 16 8 _ W hlim h2 (.inr ⟨t, p, rfl⟩)).mono fun e w' ⟨N, h1, _, _, h4⟩ => ⟨N, h1, h4⟩)
      go_wp2_with fail
      refine (HE.out _ HT1.out).mono ?_
      rintro e w2 ⟨N, rfl, hb2⟩
      have HB2 := Lib.hid (HB.out.trans (hb2.mono HB.out.size))
      clear hb2 HB HT1 HE
      go_wp2_with fail
      go_ret2
      exact ⟨HB2.out, _, _, rfl, .inr ⟨by have := HN.out; rwa [HTL.out] at this, _, _, rfl⟩⟩
theorem pts_short {S : List UInt8} {i : Nat} {p : List UInt8} (h : (ptsN S)[i]? = some p) : p.length ≤ S.length := by
  have : ∀ (k : Nat) (s : List UInt8) (i : Nat) (p : List UInt8), (Lib.splitK [58] 0 k s)[i]? = some p → p.length ≤ s.length := by
    intro k
    induction k with
    | zero =>
      intro s i p h
      rw [Lib.splitK] at h
      cases i with
      | zero => obtain rfl := Option.some.inj h; exact Nat.le_refl _
      | succ i => simp at h
    | succ k ih =>
      intro s i p h
      rw [Lib.splitK] at h
      split at h
      · cases i with
        | zero => obtain rfl := Option.some.inj h; exact Nat.le_refl _
        | succ i => simp at h
      · cases i with
        | zero => obtain rfl := Option.some.inj h; rw [List.length_take]; omega
        | succ i =>
          have := ih _ i p (by simpa using h)
          rw [List.length_drop] at this
          omega
  exact this _ S i p h
set_option maxHeartbeats 4000000 in
set_option maxRecDepth 20000 in
theorem ppmac10_any (S : List UInt8) (w : World) (hs : S.length ≤ 1000000) (ht : TS w) :
    Calls Tryd.prog 15 #[.string (str S)] w fun e w' => e = .returned (.tuple #[.int .u64 ((pMac S).1 : Int), .int .i64 ((pMac S).2 : Int)]) ∧ Below w.heap.size w w' := by
  have HSP := Lib.hid (psplitN10 S w hs ht)
  have HSH := Lib.hid (fun (i : Nat) (p : List UInt8) (h : (ptsN S)[i]? = some p) => Nat.le_trans (pts_short h) hs)
  obtain ⟨R, hR⟩ : ∃ R, R = pMac S := ⟨_, rfl⟩
  rw [← hR]
  rw [mac_parts S] at hR
  unfold pmParts at hR
  have HT := Lib.hid ht
  generalize ptsN S = Q at *
  generalize str S = s at *
  obtain ⟨g, hg⟩ : ∃ g, g = w.heap.size := ⟨_, rfl⟩
  rw [← hg] at HSP
  have HG := Lib.hid hg
  clear ht hs hg
  by_cases hl : Q.length ≠ 6
  · have hR1 := Lib.hid (show R = (0, 2) by rw [hR, if_pos hl])
    have d6 : ((Q.length : Int) != 6) = true := by rw [bne_iff_ne]; omega
    have n6 : ¬ (Q.length : Int) = 6 := by omega
    clear hR hl
    generalize Q.length = q at *
    go_enter Tryd.func15, Tryd.ntmps15
    go_wp2_with fail
    refine HSP.out.mono ?_
    rintro e w1 ⟨c, rfl, hc, hlt, hb⟩
    have HB := Lib.hid hb
    clear hc hlt hb
    go_wp2_with fail
    go_ret2
    exact ⟨by rw [hR1.out]; rfl, by have := HB.out; rwa [HG.out] at this⟩
  · rw [if_neg hl] at hR
    have hl6 : Q.length = 6 := by omega
    have HRN := Lib.hid (fun (k : Nat) (hk : k ≤ 6) (hh : macK Q k = none) => show R = (0, 2) from by
      have := macK_none hh (6 - k)
      rw [show k + (6 - k) = 6 by omega] at this
      rw [hR, this])
    have HRS := Lib.hid (fun (n : Nat) (hh : macK Q 6 = some n) => show R = (n, 0) from by rw [hR, hh])
    rw [hl6] at HSP
    have HQL := Lib.hid hl6
    clear hR hl hl6
    go_enter Tryd.func15, Tryd.ntmps15
    go_wp2_with fail
    refine HSP.out.mono ?_
    rintro e w1 ⟨c, rfl, hc, hlt, hb⟩
    have HB := Lib.hid (show Below w.heap.size w w1 by have := hb; rwa [HG.out] at this)
    have HC := Lib.hid (fun (W : World) (hbw : Below w1.heap.size w1 W) (i : Nat) (p : List UInt8) (h : Q[i]? = some p) => show W.cell? ⟨g, i, none⟩ = some (.string (str p)) from cell_kept10 (hc i p h) hbw)
    have HT1 := Lib.hid (HT.out.kept HB.out)
    clear hc hlt hb HSP HT
    go_wp2_with fail
    go_loopw [5, 17] (fun v5 v17 wr => ∃ n k : Nat, v5 = .int .u64 (n : Int) ∧ v17 = .int .i64 (k : Int) ∧ k ≤ 6 ∧ Hid (macK Q k = some n) ∧ Hid (Below w1.heap.size w1 wr)) (fun _ v17 _ => 6 - (intOf v17).toNat)
    case atStart => exact ⟨0, 0, rfl, rfl, by omega, Lib.hid rfl, Lib.hid (Below.refl _ _)⟩
    case round =>
      obtain ⟨n, k, rfl, rfl, hk, HM, HBL⟩ := hrel
      by_cases hlt : k < 6
      · have dlt : decide ((k : Int) < (6 : Int)) = true := by simp; omega
        have hki : (k : Int) < (6 : Int) := by omega
        have hk0 : (0 : Int) ≤ (k : Int) := by omega
        obtain ⟨p, hp⟩ : ∃ p, Q[k]? = some p := ⟨Q[k]'(by have := HQL.out; omega), List.getElem?_eq_getElem _⟩
        have hcp := HC.out wr HBL.out k p hp
        have hpl := HSH.out k p hp
        have HQD := Lib.hid (show Q.getD k [] = p by rw [List.getD, hp]; rfl)
        have HPU := Lib.hid (ppuint_any p wr hpl (HT1.out.kept HBL.out))
        have hpz := str_size p
        have hnl : n < 1099511627776 := by
          have h1 := macK_lt k n HM.out
          have h2 : 256 ^ k ≤ 256 ^ 5 := Nat.pow_le_pow_right (by decide) (by omega)
          have h3 : (256 : Nat) ^ 5 = 1099511627776 := by decide
          omega
        obtain ⟨P, hP⟩ : ∃ P, P = str p := ⟨_, rfl⟩
        rw [← hP] at hcp HPU hpz
        clear hp hP
        go_wp2_with fail
        refine HPU.out.mono ?_
        rintro e w2 ⟨hb2, u, ev, rfl, hcs⟩
        have HB2 := Lib.hid (HBL.out.trans (hb2.mono HBL.out.size))
        have HBZ := Lib.hid (HB.out.trans (HB2.out.mono HB.out.size))
        clear hb2 HPU hcp
        rcases hcs with ⟨v, hv, hv255, rfl, rfl⟩ | ⟨hv, t, a, rfl⟩
        · by_cases h2 : p.length = 2
          · have HN := Lib.hid (macK_next HM.out (v := v) (by rw [HQD.out]; unfold mac2; rw [if_pos h2]; exact hv))
            have e2 : ((P.size : Int) != 2) = false := by rw [bne_eq_false_iff_eq]; omega
            have m2 : (P.size : Int) = 2 := by omega
            have w1' : IntKind.u64.wrap ((n : Int) * 256) = (n : Int) * 256 := by rw [IntKind.wrap_u64]; omega
            have hor := or8_u64 n v (by omega) (by omega)
            obtain ⟨n2, hn2⟩ : ∃ n2, n2 = n * 256 + v := ⟨_, rfl⟩
            rw [← hn2] at HN hor
            have HM2 := Lib.hid m2
            clear h2 hpz hv hn2 m2
            go_wp2_with fail
            go_roundw
            case rel => exact ⟨n2, k + 1, by first | rfl | trivial, by go_num, by omega, HN, HB2⟩
            case measure => simp [intOf]; omega
          · have hR1 := Lib.hid (HRN.out (k + 1) (by omega) (macK_stop (by rw [HQD.out]; unfold mac2; rw [if_neg h2])))
            have e2 : ((P.size : Int) != 2) = true := by rw [bne_iff_ne]; omega
            have m2 : ¬ (P.size : Int) = 2 := by omega
            clear h2 hpz hv
            go_wp2_with fail
            go_ret2
            exact ⟨by rw [hR1.out]; rfl, HBZ.out⟩
        · have hR1 := Lib.hid (HRN.out (k + 1) (by omega) (macK_stop (by rw [HQD.out]; unfold mac2; rw [hv]; split <;> rfl)))
          clear hv hpz
          go_wp2_with fail
          go_ret2
          exact ⟨by rw [hR1.out]; rfl, HBZ.out⟩
      · obtain rfl : k = 6 := by omega
        have hR1 := Lib.hid (HRS.out n HM.out)
        have HBZ := Lib.hid (HB.out.trans (HBL.out.mono HB.out.size))
        go_wp2_with fail
        go_ret2
        exact ⟨by rw [hR1.out]; rfl, HBZ.out⟩
end Go.Proofs.YtpfhljidjnagkaaDoor

/- Contract of the reference of layer 10: Same, of equal frames. -/
namespace Go.Proofs.YtpfhljidjnagkaaDoor
open Go.ChangeShapes Go.WideShapes Go.ChangeAt Go.RowKit
set_option linter.unusedVariables false

theorem below_drewN10 {b : Nat} {w w' : World} (h : Below b w w') (q : Nat) : Below b w (w'.drewN q) := ⟨h.os, h.tape, h.output, h.size, h.block⟩
theorem box_cell10 {w0 w : World} {g : Nat} {t : TypeId} {cs : Array Value} (h : Cells w0 g t cs) (hb : Below w0.heap.size w0 w) (i : Nat) (v : Value) (hv : cs[i]? = some v) : w.cell? ⟨g, i, none⟩ = some v :=
  ((Cells.cell (Cells.kept h hb (Cells.lt h)) i).trans hv)
set_option maxHeartbeats 4000000 in
set_option maxRecDepth 20000 in
theorem rsame10_any (x : EthR) (A1 A2 : Option Addr) (c1 c2 : Nat) (w : World) (h1 : RowL EInt w A1 x.vl) (h2 : RowL EInt w A2 x.vl) (hn : x.vl.length ≤ 1000000) :
    Calls Tryd.prog 11 #[.agg #[.int .u64 (x.dst : Int), .int .u64 (x.src : Int), .slice A1 x.vl.length c1, .int .i64 x.ty, .string (str x.pay)], .agg #[.int .u64 (x.dst : Int), .int .u64 (x.src : Int), .slice A2 x.vl.length c2, .int .i64 x.ty, .string (str x.pay)]] w fun e w' => e = .returned (.bool true) ∧ Below w.heap.size w w' := by
  obtain ⟨d, sr, vl, ty, pay⟩ := x
  simp only at *
  obtain ⟨n, hnl⟩ : ∃ n, n = vl.length := ⟨_, rfl⟩
  rw [← hnl] at hn ⊢
  generalize str pay = P at *
  have HN := Lib.hid hnl
  have H1 := Lib.hid h1
  have H2 := Lib.hid h2
  obtain ⟨W1, hW1⟩ : ∃ W, W = (w.alloc (.cells #[.int .u64 (d : Int), .int .u64 (sr : Int), .slice A1 n c1, .int .i64 ty, .string P] 26)).alloc (.cells #[.int .u64 (d : Int), .int .u64 (sr : Int), .slice A2 n c2, .int .i64 ty, .string P] 26) := ⟨_, rfl⟩
  obtain ⟨g, hg⟩ : ∃ g, g = w.heap.size := ⟨_, rfl⟩
  obtain ⟨g2, hg2⟩ : ∃ g, g = w.heap.size + 1 := ⟨_, rfl⟩
  have HX := Lib.hid (show Cells W1 g 26 #[.int .u64 (d : Int), .int .u64 (sr : Int), .slice A1 n c1, .int .i64 ty, .string P] by rw [hW1, hg]; exact alloc2_0 w _ _)
  have HY := Lib.hid (show Cells W1 g2 26 #[.int .u64 (d : Int), .int .u64 (sr : Int), .slice A2 n c2, .int .i64 ty, .string P] by rw [hW1, hg2]; exact heap2 w _ _)
  have HB1 := Lib.hid (show Below w.heap.size w W1 by rw [hW1]; exact alloc2_below w _ _)
  have HV2 := Lib.hid (fun (W : World) (hb : Below W1.heap.size W1 W) => box_cell10 HX.out hb 2 (.slice A1 n c1) rfl)
  have HU2 := Lib.hid (fun (W : World) (hb : Below W1.heap.size W1 W) => box_cell10 HY.out hb 2 (.slice A2 n c2) rfl)
  have HW := Lib.hid (fun (W : World) (hb : Below W1.heap.size W1 W) => HB1.out.trans (hb.mono HB1.out.size))
  have x0 := box_cell10 HX.out (Below.refl _ _) 0 (.int .u64 (d : Int)) rfl
  have x1 := box_cell10 HX.out (Below.refl _ _) 1 (.int .u64 (sr : Int)) rfl
  have x2 := box_cell10 HX.out (Below.refl _ _) 2 (.slice A1 n c1) rfl
  have x3 := box_cell10 HX.out (Below.refl _ _) 3 (.int .i64 ty) rfl
  have x4 := box_cell10 HX.out (Below.refl _ _) 4 (.string P) rfl
  have y0 := box_cell10 HY.out (Below.refl _ _) 0 (.int .u64 (d : Int)) rfl
  have y1 := box_cell10 HY.out (Below.refl _ _) 1 (.int .u64 (sr : Int)) rfl
  have y2 := box_cell10 HY.out (Below.refl _ _) 2 (.slice A2 n c2) rfl
  have y3 := box_cell10 HY.out (Below.refl _ _) 3 (.int .i64 ty) rfl
  have y4 := box_cell10 HY.out (Below.refl _ _) 4 (.string P) rfl
  clear hnl h1 h2
  go_enter Tryd.func11, Tryd.ntmps11
  go_wp2_with fail
  rw [← hW1, ← hg2, ← hg]
  clear hW1 hg hg2 x0 x1 x2 x3 x4 y0 y1 y2 y3 y4
  go_loopw [5] (fun i wr => ∃ k : Nat, k ≤ n ∧ i = .int .i64 k ∧ Hid (Below W1.heap.size W1 wr)) (fun i _ => n - (intOf i).toNat)
  case atStart => exact ⟨0, Nat.zero_le _, rfl, Lib.hid (Below.refl _ _)⟩
  case round =>
    obtain ⟨k, hk, rfl, HB⟩ := hrel
    have x2 := HV2.out wr HB.out
    have y2 := HU2.out wr HB.out
    by_cases hlt : k < n
    · obtain ⟨x, hget⟩ : ∃ x, vl[k]? = some x := ⟨vl[k]'(by have := HN.out; omega), List.getElem?_eq_getElem _⟩
      obtain ⟨ga, oa, rfl, hga⟩ := H1.out.shapeA (by have := HN.out; omega)
      obtain ⟨gb, ob, rfl, hgb⟩ := H2.out.shapeA (by have := HN.out; omega)
      have a0 := EInt.at_ H1.out hget (HW.out wr HB.out)
      have b0 := EInt.at_ H2.out hget (HW.out wr HB.out)
      have hki : (k : Int) < (n : Int) := by omega
      have hki0 : (0 : Int) ≤ (k : Int) := by omega
      have hxx : (x != x) = false := bne_self_eq_false _
      clear hget
      go_wp2_with fail
      go_quiet (fail)
      have HB2 := Lib.hid (below_drewN10 HB.out nq)
      clear HB a0 b0 x2 y2
      generalize wr.drewN nq = w2 at *
      go_wp2_with fail
      go_roundw
      case rel => exact ⟨k + 1, by omega, by go_num, HB2⟩
      case measure => simp [intOf]; omega
    · obtain rfl : k = n := by omega
      have hd : decide ((k : Int) < (k : Int)) = false := by simp
      go_wp2_with fail
      go_ret
      exact ⟨rfl, HW.out wr HB.out⟩
end Go.Proofs.YtpfhljidjnagkaaDoor

/- All contracts of the program of layer 10. -/
namespace Go.Proofs.YtpfhljidjnagkaaDoor
theorem ethProg_there : True := trivial
end Go.Proofs.YtpfhljidjnagkaaDoor

/- The law package of layer 10: awake. -/
namespace Go.Proofs.YtpfhljidjnagkaaDoor
open Go.ChangeShapes Go.WideShapes Go.ChangeAt Go.RowKit
set_option linter.unusedVariables false

def exE : EthR := ⟨1, 2, [7], 2048, [120]⟩
def exB : List UInt8 := [0, 0, 0, 0, 0, 1, 0, 0, 0, 0, 0, 2, 129, 0, 0, 7, 8, 0, 120]
theorem exE_dec : decE exB = (exE, 0) := by kernel_rfl
theorem exM_fmt : fmtMac 258 = [48, 48, 58, 48, 48, 58, 48, 48, 58, 48, 48, 58, 48, 49, 58, 48, 50] := by decide +kernel
theorem bytes_eq10 (s : ByteArray) (L : List UInt8) : (s.toList == L) = (s.data.toList == L) := by rw [ByteArray.toList_eq]
set_option maxHeartbeats 2000000 in
set_option maxRecDepth 20000 in
theorem awake_any (w : World) (ht : TG w) :
    Calls Tryd.prog 8 #[] w fun e w' => e = .returned (.bool true) ∧ Below w.heap.size w w' := by
  have HTW := Lib.hid ht
  have H1 := Lib.hid (fun (W : World) (htw : TG W) => show Calls Tryd.prog 9 #[.string ⟨#[0, 0, 0, 0, 0, 1, 0, 0, 0, 0, 0, 2, 129, 0, 0, 7, 8, 0, 120]⟩] W fun e w' => ∃ A cap, e = .returned (.tuple #[.agg #[.int .u64 1, .int .u64 2, .slice A 1 cap, .int .i64 2048, .string ⟨#[120]⟩], .int .i64 0]) ∧ RowL EInt w' A [7] ∧ Below W.heap.size W w' from by
    refine (pdec10_any exB W (by decide) htw).mono ?_
    rintro e w' ⟨A, cap, h1, h2, h3, h4⟩
    rw [exE_dec] at h1 h2
    exact ⟨A, cap, h1, h2, h4⟩)
  have H2 := Lib.hid (fun (A1 A2 : Option Addr) (c1 c2 : Nat) (W : World) (h1 : RowL EInt W A1 [7]) (h2 : RowL EInt W A2 [7]) => show Calls Tryd.prog 11 #[.agg #[.int .u64 1, .int .u64 2, .slice A1 1 c1, .int .i64 2048, .string ⟨#[120]⟩], .agg #[.int .u64 1, .int .u64 2, .slice A2 1 c2, .int .i64 2048, .string ⟨#[120]⟩]] W fun e w' => e = .returned (.bool true) ∧ Below W.heap.size W w' from
    rsame10_any exE A1 A2 c1 c2 W h1 h2 (by decide))
  obtain ⟨F, hF⟩ : ∃ F, F = str (fmtMac 258) := ⟨_, rfl⟩
  have hx : (F.toList == [48, 48, 58, 48, 48, 58, 48, 48, 58, 48, 48, 58, 48, 49, 58, 48, 50]) = true := by
    rw [bytes_eq10, hF, str_toList, exM_fmt]; decide
  have H3 := Lib.hid (fun (W : World) => show Calls Tryd.prog 14 #[.int .u64 258] W fun e w' => e = .returned (.string F) ∧ Below W.heap.size W w' from by
    have := pfmac10_any 258 W (by decide)
    rw [← hF] at this
    exact this)
  clear hF ht
  go_enter Tryd.func8, Tryd.ntmps8
  go_wp2_with fail
  refine (H1.out _ HTW.out).mono ?_
  rintro e w1 ⟨A, cap, rfl, r1, b1⟩
  have R1 := Lib.hid r1
  have B1 := Lib.hid b1
  clear r1 b1
  go_wp2_with fail
  refine (H2.out _ _ _ _ _ (R1.out.kept (alloc2_below w1 _ _)) (rowl_block (heap2 w1 _ _) rfl)).mono ?_
  rintro e w2 ⟨rfl, b2⟩
  have B2 := Lib.hid (B1.out.trans (((alloc2_below w1 _ _).trans (b2.mono (by simp; omega))).mono B1.out.size))
  clear b2 R1 B1 H1 H2
  go_wp2_with fail
  refine (H3.out _).mono ?_
  rintro e w3 ⟨rfl, b3⟩
  have B3 := Lib.hid (B2.out.trans (b3.mono B2.out.size))
  clear b3 B2 H3
  go_wp2_with fail
  go_ret
  exact ⟨rfl, B3.out⟩
end Go.Proofs.YtpfhljidjnagkaaDoor

/- Contracts: the program's CRC table, CrcUpdate, Crc; the reference's Crc. -/
import Derived.Test.YtajoejpodflnlaaDoorCrc
namespace Go.Proofs.YtajoejpodflnlaaDoor
open Go.ChangeShapes Go.WideShapes Go.ChangeAt Go.RowKit

theorem info256 : (Tryd.prog.info? 48).map (fun i => (i.zero, i.size)) = some (some (.agg (Array.replicate 256 (.int .u32 0))), 256) := by kernel_rfl

/-- The table: at place x what becomes of x when eight bits have left. -/
def Tab (T : Array Value) : Prop := T.size = 256 ∧ ∀ x, x < 256 → T[x]? = some (.int .u32 (stn 8 x : Nat))

theorem below_setRow {B : Nat} {a w : World} (h : Below B a w) (g : Nat) (hg : B ≤ g) (cs : Array Value) : Below B a (w.setRow g cs) :=
  ⟨h.os, h.tape, h.output, by rw [setRow_size]; exact h.size, fun k hk => by rw [setRow_other _ _ _ _ (by omega)]; exact h.block k hk⟩

set_option maxHeartbeats 1000000 in
set_option maxRecDepth 20000 in
theorem table_any (w : World) :
    Calls Tryd.prog 33 #[] w fun e w' => ∃ T, e = .returned (.agg T) ∧ Tab T ∧ Below w.heap.size w w' := by
  have h8 : ∀ (j : Nat) (W : World), j < 256 → Calls Tryd.prog 40 #[.int .u32 j] W fun e w' => e = .returned (.int .u32 (stn 8 j : Nat)) ∧ W = w' := fun j W h => eight_any j W (by omega)
  have hsp : ∀ j : Nat, j < 256 → stn 8 (lowb j) ^^^ stn 8 (j - lowb j) = stn 8 j := fun j h => stn_split h
  have hFl : ∀ j : Nat, j < 256 → stn 8 j < 4294967296 := fun j h => stn_lt 8 (by omega)
  unfold Tab
  generalize stn 8 = F at *
  have H8 := Lib.hid h8
  have HSP := Lib.hid hsp
  have HFL := Lib.hid hFl
  clear h8 hsp hFl
  obtain ⟨hz, hi⟩ := zero_of_info info256
  have hzr : ∀ i, i < (Array.replicate 256 (Value.int .u32 0)).size → (Array.replicate 256 (Value.int .u32 0))[i]? = some ((fun _ => .int .u32 0) i) := fun i hi => by
    rw [Array.getElem?_replicate, if_pos (by simpa using hi)]
  have hzs : (Array.replicate 256 (Value.int .u32 0)).size = 256 := by simp
  generalize Array.replicate 256 (Value.int .u32 0) = Z at *
  have HR := Lib.hid hzr
  have HS := Lib.hid hzs
  have HI := Lib.hid hi
  clear hzr hzs hi
  go_enter Tryd.func33, Tryd.ntmps33
  go_wp2_with fail
  go_loopw [4] (fun i wr => ∃ j : Nat, j ≤ 256 ∧ i = .int .i64 j ∧ wr.rowIs w.heap.size 48 256 (fun _ => .int .u32 0) ∧ wr.rowIs (w.heap.size + 1) 48 256 (fun x => .int .u32 (if x < j then (F x : Nat) else 0)) ∧ Below w.heap.size w wr) (fun i _ => 256 - (intOf i).toNat)
  case atStart =>
    have hz0 : Z.size = 256 := HS.out
    refine ⟨0, by omega, rfl, ?_, ?_, ((Below.refl _ _).alloc (Nat.le_refl _) _).alloc (by simp) _⟩
    · have := (World.rowIs_alloc w Z 48 _ HR.out).alloc (.cells Z 48)
      rw [hz0] at this
      exact this
    · have := World.rowIs_alloc (w.alloc (.cells Z 48)) Z 48 _ HR.out
      rw [hz0] at this
      refine World.rowIs.congr (f := fun _ => .int .u32 0) (by simpa using this) (fun i _ => by simp)
  case round =>
    obtain ⟨j, hj, rfl, hr0, hr1, hb⟩ := hrel
    by_cases hlt : j < 256
    · obtain ⟨hbit, hle, hxor, hor⟩ := low_facts ⟨j, hlt⟩
      simp only at hbit hle hxor hor
      have hf := hr1.frozen j
      have hc : wr.cell? ⟨w.heap.size + 1, j, none⟩ = some (.int .u32 0) := by
        have := hr1.cell hlt
        simpa using this
      have hrel : ∀ wx : World, Below (w.heap.size) w wx → wx.rowIs w.heap.size 48 256 (fun _ => .int .u32 0) → wx.rowIs (w.heap.size + 1) 48 256 (fun x => .int .u32 (if x = j then (F j : Nat) else if x < j then (F x : Nat) else 0)) →
          wx.rowIs w.heap.size 48 256 (fun _ => .int .u32 0) ∧ wx.rowIs (w.heap.size + 1) 48 256 (fun x => .int .u32 (if x < j + 1 then (F x : Nat) else 0)) ∧ Below w.heap.size w wx := fun wx h1 h2 h3 => ⟨h2, h3.congr (fun x hx => by
            by_cases e : x = j
            · rw [if_pos e, if_pos (by omega), e]
            · rw [if_neg e]
              by_cases e2 : x < j
              · rw [if_pos e2, if_pos (by omega)]
              · rw [if_neg e2, if_neg (by omega)]), h1⟩
      have HREL := Lib.hid hrel
      have HX := Lib.hid hxor
      clear hrel hxor
      by_cases he : j = lowb j
      · rw [← he] at hbit
        have ht : ((j : Int) == (j : Int)) = true := by simp
        clear he hle hor
        go_wp2_with fail
        refine (H8.out j _ hlt).mono ?_
        rintro e w1 ⟨rfl, rfl⟩
        go_wp2_with fail
        go_roundw
        case rel => exact ⟨j + 1, by omega, by go_num, HREL.out _ (hb.setCell (by simp) _) (hr0.setOther (by simp) _) ((hr1.set j _).congr (fun x hx => by by_cases e : x = j <;> simp [e]))⟩
        case measure => simp [intOf]; omega
      · rcases hor with hor | ⟨hlo, hpos⟩
        · exact absurd hor he
        have hsp := HSP.out j hlt
        have hc1 : wr.cell? ⟨w.heap.size + 1, lowb j, none⟩ = some (.int .u32 (F (lowb j) : Nat)) := by
          have := hr1.cell (show lowb j < 256 by omega)
          simpa [hlo] using this
        have hc2 : wr.cell? ⟨w.heap.size + 1, j - lowb j, none⟩ = some (.int .u32 (F (j - lowb j) : Nat)) := by
          have := hr1.cell (show j - lowb j < 256 by omega)
          simpa [show j - lowb j < j by omega] using this
        have hx := u32_xor_nat (F (lowb j)) (F (j - lowb j)) (HFL.out _ (by omega)) (HFL.out _ (by omega))
        rw [hsp] at hx
        have ht : ((j : Int) == (lowb j : Int)) = false := by simp; omega
        have HSP2 := Lib.hid hsp
        have HE := Lib.hid he
        clear hsp he
        generalize F (lowb j) = a1 at *
        generalize hq : j - lowb j = q at *
        have e2 : (j : Int) - (lowb j : Int) = (q : Int) := by omega
        generalize F q = a2 at *
        generalize hu : lowb j = u at *
        go_wp2_with fail
        go_region
        all_goals
          go_wp2_with fail
          go_roundw
          case rel => exact ⟨j + 1, by omega, by go_num, HREL.out _ (hb.setCell (by simp) _).drew (hr0.setOther (by simp) _) ((hr1.set j _).congr (fun x hx => by by_cases e : x = j <;> simp [e]))⟩
          case measure => simp [intOf]; omega
    · have hd : decide ((j : Int) < 256) = false := by simp; omega
      have HL := Lib.hid hlt
      have HJ := Lib.hid hj
      clear hlt hj
      obtain ⟨Z0, hZ, hZn, hZc⟩ := hr0
      obtain ⟨T, hT, hTn, hTc⟩ := hr1
      have HTn := Lib.hid hTn
      have HTc := Lib.hid hTc
      have hiT : (Tryd.prog.info? 48).map (·.size) = some T.size := by rw [hTn]; exact HI.out
      have hall : T.all (·.oneCell') = true := by
        rw [Array.all_eq_true]
        intro i h
        have := hTc i (by omega)
        rw [Array.getElem?_eq_getElem h] at this
        rw [Option.some.inj this]; rfl
      have HIT := Lib.hid hiT
      have HALL := Lib.hid hall
      have HZ := Lib.hid hZ
      have HT := Lib.hid hT
      have HZn := Lib.hid (hZn.trans hTn.symm)
      clear hTn hTc hiT hall hZ hT hZn hZc
      go_wp2_with (first | (refine wpList_load_row rfl 48 _ rfl (w.heap.size + 1) rfl 48 T (0, 0) _ HT.out Tryd.underlying48 rfl HIT.out ?_) | (refine wpList_store_row rfl 48 _ _ rfl w.heap.size T rfl rfl 48 Z0 HZ.out HIT.out HZn.out HALL.out ?_))
      refine bodyPost_ret (v := .agg T) ?_ rfl ⟨T, rfl, ⟨HTn.out, fun x hx => ?_⟩, ?_⟩
      · exact results_cell_row rfl _ _ w.heap.size 48 T (0, 0) _ rfl (setRow_heap _ _ Z0 T 48 (0, 0) HZ.out) Tryd.underlying48 rfl HIT.out
      · rw [HTc.out x hx, if_pos (by have := HL.out; omega)]
      · exact below_setRow hb _ (Nat.le_refl _) _

theorem xor8 (c : Nat) (b : UInt8) : bits .xor .u8 ((c : Int) % 256) (b.toNat : Int) = ((c % 256 ^^^ b.toNat : Nat) : Int) := by
  have := u8_xor_nat (c % 256) b.toNat (by omega) b.toNat_lt
  rw [← this]
  congr 1
theorem xor_rest (x c : Nat) (hx : x < 4294967296) (hc : c < 4294967296) : bits .xor .u32 (x : Int) ((c : Int) / 256) = ((x ^^^ c / 256 : Nat) : Int) := by
  have := u32_xor_nat x (c / 256) hx (by omega)
  rw [← this]
  congr 1

set_option maxHeartbeats 1000000 in
set_option maxRecDepth 20000 in
/-- The program's CrcUpdate. -/
theorem crcu_any (c0 : Nat) (s : ByteArray) (w : World) (h0 : c0 < 4294967296) (hs : s.size ≤ 9223372036854775805) :
    Calls Tryd.prog 22 #[.int .u32 c0, .string s] w fun e w' => e = .returned (.int .u32 (crcU c0 s.data.toList : Nat)) ∧ Below w.heap.size w w' := by
  obtain ⟨hz, hi⟩ := zero_of_info info256
  have hzs : (Array.replicate 256 (Value.int .u32 0)).size = 256 := by simp
  generalize Array.replicate 256 (Value.int .u32 0) = Z at *
  have HS := Lib.hid hzs
  have HI := Lib.hid hi
  clear hzs hi
  have htab := table_any
  unfold Tab at htab
  have hbt : ∀ (c : Nat) (b : UInt8), stn 8 (c % 256 ^^^ b.toNat) ^^^ c / 256 = byteIn c b := byteIn_table
  have hFl : ∀ x : Nat, x < 256 → stn 8 x < 4294967296 := fun x h => stn_lt 8 (by omega)
  generalize stn 8 = F at *
  have HTAB := Lib.hid htab
  have HBT := Lib.hid hbt
  have HFL := Lib.hid hFl
  clear htab hbt hFl
  have hl : s.data.toList.length = s.size := by simp
  have hget : ∀ k (h : k < s.size), s.data.toList.drop k = s[k] :: s.data.toList.drop (k + 1) := fun k h => by
    rw [List.drop_eq_getElem_cons (by omega)]; rfl
  generalize s.data.toList = L at *
  have HG := Lib.hid hget
  clear hget
  have hx0 := ones_xor c0 h0
  have hf0 := flip_lt h0
  have HC : Hid (crcU c0 L = flip (bytesIn (flip c0) L)) := rfl
  generalize crcU c0 L = ans at *
  generalize flip c0 = f0 at *
  go_enter Tryd.func22, Tryd.ntmps22
  go_wp2_with fail
  refine (HTAB.out _).mono ?_
  rintro e w1 ⟨T, rfl, ⟨hTn, hTc⟩, hb1⟩
  have hiT : (Tryd.prog.info? 48).map (·.size) = some T.size := by rw [hTn]; exact HI.out
  have hall : T.all (·.oneCell') = true := by
    rw [Array.all_eq_true]
    intro i h
    have := hTc i (by omega)
    rw [Array.getElem?_eq_getElem h] at this
    rw [Option.some.inj this]; rfl
  have HIT := Lib.hid hiT
  have HALL := Lib.hid hall
  have HZn := Lib.hid (HS.out.trans hTn.symm)
  have HTc := Lib.hid hTc
  clear hTn hTc hiT hall
  go_wp2_with (refine wpList_store_row rfl 48 _ _ rfl w1.heap.size T rfl rfl 48 Z (heap_alloc_last _ _) HIT.out HZn.out HALL.out ?_; rw [World.setRow_alloc_new]; generalize hW2 : w1.alloc (.cells T 48) = W2)
  have hcell : ∀ x, x < 256 → W2.cell? ⟨w1.heap.size, x, none⟩ = some (.int .u32 (F x : Nat)) := fun x hx => by
    rw [← hW2, World.cell?_alloc_at _ _ _ _ rfl]
    exact HTc.out x hx
  have hbelow : Below w.heap.size w W2 := by
    rw [← hW2]
    exact hb1.alloc hb1.size _
  have HCELL := Lib.hid hcell
  clear hcell hW2 hb1 HZn HTc HIT HALL
  go_loop [6, 13] (fun p i => ∃ k c : Nat, k ≤ s.size ∧ i = .int .i64 k ∧ p = .int .u32 c ∧ c < 4294967296 ∧ Hid (bytesIn c (L.drop k) = bytesIn f0 L)) (fun _ i => s.size - (intOf i).toNat)
  case atStart => exact ⟨0, f0, by omega, rfl, rfl, hf0, rfl⟩
  case round =>
    obtain ⟨k, c, hk, rfl, rfl, hc, hm⟩ := hrel
    by_cases hlt : k < s.size
    · have hxb := xor8 c s[k]
      have hb : s[k].toNat < 256 := u8_lt _
      have hcx : c % 256 ^^^ s[k].toNat < 256 := xor_lt (k := 8) (by omega) (by omega)
      have hfx := HFL.out _ hcx
      have hcl := HCELL.out _ hcx
      have hby := HBT.out c s[k]
      have hxr := xor_rest _ c hfx hc
      rw [hby] at hxr
      have hbl := byteIn_lt hc s[k]
      have hm2 : Hid (bytesIn (byteIn c s[k]) (L.drop (k + 1)) = bytesIn f0 L) := by
        have := hm.out
        rw [HG.out k hlt] at this
        exact this
      clear hm hby
      generalize byteIn c s[k] = d at *
      generalize c % 256 ^^^ s[k].toNat = x at *
      generalize F x = fx at *
      go_wp2_with fail
      go_round
      case rel => exact ⟨k + 1, d, by omega, by go_num, rfl, hbl, hm2⟩
      case measure => simp [intOf]; omega
    · have hf : bytesIn f0 L = c := by rw [← hm.out, List.drop_eq_nil_of_le (by omega)]; rfl
      have hx := ones_xor c hc
      have HF : Hid (ans = flip c) := by rw [← hf]; exact HC
      clear hf hm
      generalize flip c = fc at *
      go_wp2_with fail
      go_ret
      exact ⟨ret_int (by rw [HF.out]), hbelow⟩

theorem crc_any (s : ByteArray) (w : World) (hs : s.size ≤ 9223372036854775805) :
    Calls Tryd.prog 20 #[.string s] w fun e w' => e = .returned (.int .u32 (crcU 0 s.data.toList : Nat)) ∧ Below w.heap.size w w' := by
  have h := fun W => crcu_any 0 s W (by decide) hs
  generalize crcU 0 s.data.toList = a at *
  have H := Lib.hid h
  clear h
  go_enter Tryd.func20, Tryd.ntmps20
  go_wp2_with fail
  refine (H.out _).mono ?_
  rintro e w1 ⟨rfl, hb⟩
  go_wp2_with fail
  go_ret
  exact ⟨rfl, hb⟩

theorem rcrc_any (s : ByteArray) (w : World) (hs : s.size ≤ 9223372036854775805) :
    Calls Tryd.prog 21 #[.string s] w fun e w' => e = .returned (.int .u32 (crcU 0 s.data.toList : Nat)) ∧ w = w' := by
  have h := fun W => rcrcu_any 0 s W (by decide) hs
  generalize crcU 0 s.data.toList = a at *
  have H := Lib.hid h
  clear h
  go_enter Tryd.func21, Tryd.ntmps21
  go_wp2_with fail
  refine (H.out _).mono ?_
  rintro e w1 ⟨rfl, rfl⟩
  go_wp2_with fail
  go_ret
  exact ⟨rfl, rfl⟩
end Go.Proofs.YtajoejpodflnlaaDoor

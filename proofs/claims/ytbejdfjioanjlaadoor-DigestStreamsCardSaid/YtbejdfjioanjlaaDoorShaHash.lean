/- Contracts: the program's Hash: NewHash, Write, Len, sum, Hex; Sum and Hex. -/
import Derived.Test.YtbejdfjioanjlaaDoorShaWrite
import Derived.Test.YtbejdfjioanjlaaDoorShaPad
import Derived.Test.YtbejdfjioanjlaaDoorShaOut
import Derived.Test.YtbejdfjioanjlaaDoorShaDig
namespace Go.Proofs.YtbejdfjioanjlaaDoor
open Go.ChangeShapes Go.WideShapes Go.ChangeAt Go.RowKit

/-- Block g is a Hash to which L was written. -/
def Ob (w : World) (g : Nat) (L : List UInt8) : Prop := ∃ P, HH w g (stOf L) P L.length ∧ ∀ i, i < L.length % 64 → P.getD i 0 = (rest L).getD i 0
theorem Ob.lt {w : World} {g : Nat} {L : List UInt8} (h : Ob w g L) : g < w.heap.size := h.choose_spec.1.lt
theorem Ob.of_block {w w' : World} {g : Nat} {L : List UInt8} (h : Ob w g L) (e : w'.heap[g]? = w.heap[g]?) : Ob w' g L := by
  obtain ⟨P, h1, h2⟩ := h
  exact ⟨P, h1.of_block e, h2⟩
theorem Ob.kept {w w' : World} {g : Nat} {L : List UInt8} (h : Ob w g L) (hb : Below w.heap.size w w') : Ob w' g L := h.of_block (hb.block _ h.lt)
theorem Ob.only {w w' : World} {g k : Nat} {L : List UInt8} (h : Ob w g L) (hg : w.grownBy w' (some k)) (hne : g ≠ k) : Ob w' g L := h.of_block (hg.block _ h.lt (by intro e; injection e with e; exact hne e))

theorem getD_rest_app (A B : List UInt8) {i : Nat} (h : A.length ≤ i) : (A ++ B).getD i 0 = B.getD (i - A.length) 0 := by
  rw [List.getD_eq_getElem?_getD, List.getD_eq_getElem?_getD, List.getElem?_append_right h]

theorem write_any (g : Nat) (L : List UInt8) (s : ByteArray) (w : World) (hk : Kt w) (hg : g ≠ 0) (h : Ob w g L) (hl : L.length ≤ 2305843009213693951) (hs : s.size ≤ 2305843009213693951) :
    Calls Tryd.prog 14 #[.pointer (some ⟨g, 0, none⟩), .string s] w fun e w' => e = .returned (.tuple #[]) ∧ Ob w' g (L ++ s.data.toList) ∧ w.grownBy w' (some g) := by
  obtain ⟨P, hh, hp⟩ := h
  have hsz : s.data.toList.length = s.size := by simp
  by_cases h0 : L.length % 64 = 0
  · refine (write_whole g _ P _ s w hk hh (stOf_ok L) hg h0 hl hs).mono ?_
    rintro e w' ⟨he, hh', hg'⟩
    refine ⟨he, ⟨lay P 0 (rest s.data.toList), ?_, fun i hi => ?_⟩, hg'⟩
    · rw [stOf_app_whole h0, List.length_append, hsz]
      exact hh'
    · have hrl := rest_length s.data.toList
      rw [List.length_append] at hi
      rw [rest_app_whole h0, lay_getD _ _ _ (by omega), if_pos (by omega), Nat.sub_zero]
  · by_cases h1 : L.length % 64 + s.size < 64
    · refine (write_short g _ P _ s w hh (by omega) h1 (by omega)).mono ?_
      rintro e w' ⟨he, hh', hg'⟩
      refine ⟨he, ⟨lay P (L.length % 64) s.data.toList, ?_, fun i hi => ?_⟩, hg'⟩
      · rw [stOf_app_short (by omega), List.length_append, hsz]
        exact hh'
      · have hrl := rest_length L
        rw [List.length_append] at hi
        rw [rest_app_short (by omega), lay_getD _ _ _ (by omega)]
        by_cases c : L.length % 64 ≤ i
        · rw [if_pos (by omega), getD_rest_app _ _ (by omega), hrl]
        · rw [if_neg (by omega), hp i (by omega), getD_app _ _ (by omega)]
    · refine (write_fill g _ P _ s w hk hh (stOf_ok L) hg (by omega) (by omega) hl hs).mono ?_
      rintro e w' ⟨he, hh', hg'⟩
      have hrl := rest_length L
      have hcut : s.data.toList = s.data.toList.take (64 - L.length % 64) ++ s.data.toList.drop (64 - L.length % 64) := (List.take_append_drop _ _).symm
      have htl : (s.data.toList.take (64 - L.length % 64)).length = 64 - L.length % 64 := by rw [List.length_take]; omega
      have hdl : (s.data.toList.drop (64 - L.length % 64)).length = s.size - (64 - L.length % 64) := by rw [List.length_drop, hsz]
      generalize s.data.toList.take (64 - L.length % 64) = T at *
      generalize s.data.toList.drop (64 - L.length % 64) = D at *
      have hwh : (L ++ T).length % 64 = 0 := by rw [List.length_append]; omega
      have hst : stOf (L ++ T) = comp (stOf L) (lay P (L.length % 64) T) := by
        rw [stOf_app_fill (by omega)]
        refine comp_congr fun i hi => ?_
        rw [lay_getD _ _ _ hi]
        by_cases c : L.length % 64 ≤ i
        · rw [if_pos (by omega), getD_rest_app _ _ (by omega), hrl]
        · rw [if_neg (by omega), getD_app _ _ (by omega), hp i (by omega)]
      refine ⟨he, ⟨lay (lay P (L.length % 64) T) 0 (rest D), ?_, fun i hi => ?_⟩, hg'⟩
      · rw [hcut, ← List.append_assoc, stOf_app_whole hwh, hst, show ((L ++ T) ++ D).length = L.length + s.size by simp only [List.length_append]; omega]
        exact hh'
      · have hrl2 := rest_length D
        rw [hcut, ← List.append_assoc] at hi ⊢
        rw [List.length_append] at hi
        rw [rest_app_whole hwh, lay_getD _ _ _ (by omega), if_pos (by omega), Nat.sub_zero]

theorem info73 : (Tryd.prog.info? 46).map (fun i => (i.zero, i.size)) = some (some (.agg ((List.range 73).map (hcell ⟨0, 0, 0, 0, 0, 0, 0, 0⟩ [] 0)).toArray), 73) := by kernel_rfl

set_option maxRecDepth 20000 in
theorem newh_any (w : World) :
    Calls Tryd.prog 13 #[] w fun e w' => e = .returned (.pointer (some ⟨w.heap.size, 0, none⟩)) ∧ Ob w' w.heap.size [] ∧ Below w.heap.size w w' := by
  obtain ⟨hz, hi⟩ := zero_of_info info73
  have hzs : ((List.range 73).map (hcell ⟨0, 0, 0, 0, 0, 0, 0, 0⟩ [] 0)).toArray.size = 73 := by simp
  have hzc : ∀ x, x < 73 → ((List.range 73).map (hcell ⟨0, 0, 0, 0, 0, 0, 0, 0⟩ [] 0)).toArray[x]? = some (hcell ⟨0, 0, 0, 0, 0, 0, 0, 0⟩ [] 0 x) := fun x hx => by
    rw [List.getElem?_toArray, List.getElem?_map, List.getElem?_range hx]; rfl
  generalize ((List.range 73).map (hcell ⟨0, 0, 0, 0, 0, 0, 0, 0⟩ [] 0)).toArray = Z at *
  have HZC := Lib.hid hzc
  clear hzc hi
  go_enter Tryd.func13, Tryd.ntmps13
  go_wp2_with fail
  go_ret
  refine ⟨rfl, ⟨[], ?_, fun i hi => by simp at hi⟩, (Below.refl _ _).alloc (Nat.le_refl _) _⟩
  rw [stOf_nil]
  generalize hC : ((((((((Z.setIfInBounds 0 (Value.int .u32 1779033703)).setIfInBounds 1 (.int .u32 3144134277)).setIfInBounds 2 (.int .u32 1013904242)).setIfInBounds 3 (.int .u32 2773480762)).setIfInBounds 4 (.int .u32 1359893119)).setIfInBounds 5 (.int .u32 2600822924)).setIfInBounds 6 (.int .u32 528734635)).setIfInBounds 7 (.int .u32 1541459225)) = C at *
  have hn : C.size = 73 := by rw [← hC]; simp [hzs]
  have := World.rowIs_alloc w C 46 (hcell H0 [] 0) (fun x hx => by
    rw [hn] at hx
    by_cases h8 : x < 8
    · have hx8 : x = 0 ∨ x = 1 ∨ x = 2 ∨ x = 3 ∨ x = 4 ∨ x = 5 ∨ x = 6 ∨ x = 7 := by omega
      rw [← hC]
      rcases hx8 with rfl | rfl | rfl | rfl | rfl | rfl | rfl | rfl <;> (simp [hzs]; rfl)
    · rw [← hC]
      simp only [Array.getElem?_setIfInBounds]
      rw [if_neg (by omega), if_neg (by omega), if_neg (by omega), if_neg (by omega), if_neg (by omega), if_neg (by omega), if_neg (by omega), if_neg (by omega), HZC.out x hx]
      unfold hcell
      rw [if_neg h8, if_neg h8])
  rw [hn] at this
  exact this

theorem len_any (g : Nat) (L : List UInt8) (w : World) (h : Ob w g L) :
    Calls Tryd.prog 16 #[.pointer (some ⟨g, 0, none⟩)] w fun e w' => e = .returned (.int .i64 L.length) ∧ w = w' := by
  obtain ⟨P, hh, _⟩ := h
  have c := hh.count
  generalize L.length = n at *
  clear hh
  go_enter Tryd.func16, Tryd.ntmps16
  go_wp2_with fail
  go_ret
  exact ⟨rfl, rfl⟩
theorem len_nil (w : World) :
    Calls Tryd.prog 16 #[.pointer none] w fun e w' => e = .returned (.int .i64 0) ∧ w = w' := by
  go_enter Tryd.func16, Tryd.ntmps16
  go_wp2_with fail
  go_ret
  exact ⟨rfl, rfl⟩
theorem hexm_nil (w : World) :
    Calls Tryd.prog 15 #[.pointer none] w fun e w' => e = .returned (.string ⟨#[]⟩) ∧ w = w' := by
  go_enter Tryd.func15, Tryd.ntmps15
  go_wp2_with fail
  go_ret
  exact ⟨rfl, rfl⟩

set_option maxRecDepth 20000 in
theorem hsum_any (g : Nat) (L : List UInt8) (w : World) (hk : Kt w) (h : Ob w g L) (hl : L.length ≤ 1152921504606846975) :
    Calls Tryd.prog 19 #[.pointer (some ⟨g, 0, none⟩)] w fun e w' => e = .returned (.string (str (sha L))) ∧ Below w.heap.size w w' := by
  have hkl := hk.lt
  obtain ⟨P, hh, hp⟩ := h
  have c0 := hh.count
  have hgl := hh.lt
  obtain ⟨cs, hcs, hn, hc⟩ := id hh
  obtain ⟨hz, hi⟩ := zero_of_info info73
  have hzs : ((List.range 73).map (hcell ⟨0, 0, 0, 0, 0, 0, 0, 0⟩ [] 0)).toArray.size = cs.size := by rw [hn]; simp
  generalize ((List.range 73).map (hcell ⟨0, 0, 0, 0, 0, 0, 0, 0⟩ [] 0)).toArray = Z at *
  rw [← hn] at hi
  have hall : cs.all (·.oneCell') = true := by
    rw [Array.all_eq_true]
    intro i h
    have := hc i (by omega)
    rw [Array.getElem?_eq_getElem h] at this
    rw [Option.some.inj this]
    unfold hcell
    split
    · rfl
    · split <;> rfl
  have hob : Ob (w.alloc (.cells cs 46)) w.heap.size L := by
    refine ⟨P, ?_, hp⟩
    have := World.rowIs_alloc w cs 46 (hcell (stOf L) P L.length) (fun i hi => hc i (by omega))
    rw [hn] at this
    exact this
  have hpad := fun W => padding_any L.length W hl
  have hlp := padL_length L.length
  have hwr := fun W (a : Kt W) (b : Ob W w.heap.size L) => write_any w.heap.size L (str (padL L.length)) W a (by omega) b (by omega) (by rw [str_size]; omega)
  rw [str_toList] at hwr
  have hout : ∀ W, Ob W w.heap.size (L ++ padL L.length) → Calls Tryd.prog 28 #[.pointer (some ⟨w.heap.size, 0, none⟩)] W fun e w' => e = .returned (.string (str (sha L))) ∧ Below W.heap.size W w' := fun W ⟨P', h1, _⟩ => bytes_any w.heap.size _ P' _ W h1 (stOf_ok _)
  generalize sha L = A at *
  generalize L ++ padL L.length = L2 at *
  generalize padL L.length = R at *
  have HCS := Lib.hid hcs
  have HI := Lib.hid hi
  have HZS := Lib.hid hzs
  have HALL := Lib.hid hall
  have HOB := Lib.hid hob
  have HPAD := Lib.hid hpad
  have HWR := Lib.hid hwr
  have HOUT := Lib.hid hout
  have HK := Lib.hid hk
  generalize L.length = n at *
  clear hh hp hcs hn hc hi hzs hall hob hpad hwr hout hk hlp
  go_enter Tryd.func19, Tryd.ntmps19
  go_wp2_with (first | (refine wpList_load_row rfl 46 _ rfl g rfl 46 cs (0, 0) _ HCS.out Tryd.underlying46 rfl HI.out ?_) | (refine wpList_store_row rfl 46 _ _ rfl w.heap.size cs rfl rfl 46 Z (heap_alloc_last _ _) HI.out HZS.out HALL.out ?_; rw [World.setRow_alloc_new]))
  have hbA := (Below.refl w.heap.size w).alloc (Nat.le_refl _) (.cells cs 46)
  have hkA := HK.out.alloc (.cells cs 46)
  have hgA : w.heap.size < (w.alloc (.cells cs 46)).heap.size := by simp
  generalize w.alloc (.cells cs 46) = w1 at *
  have HBA := Lib.hid hbA
  have HKA := Lib.hid hkA
  clear hbA hkA c0
  refine (HPAD.out _).mono ?_
  rintro e w2 ⟨rfl, hb2⟩
  have HOB2 := Lib.hid (HOB.out.kept hb2)
  have HK2 := Lib.hid (HKA.out.kept hb2)
  have HB2 := Lib.hid (HBA.out.trans (hb2.mono HBA.out.size))
  clear hb2 HOB HKA
  go_wp2_with fail
  refine (HWR.out _ HK2.out HOB2.out).mono ?_
  rintro e w3 ⟨rfl, hob3, hg3⟩
  have HB3 := Lib.hid (below_but HB2.out hg3 (Nat.le_refl _) HB2.out.size)
  have HOB3 := Lib.hid hob3
  clear hob3 hg3
  go_wp2_with fail
  refine (HOUT.out _ HOB3.out).mono ?_
  rintro e w4 ⟨rfl, hb4⟩
  go_wp2_with fail
  go_ret
  exact ⟨rfl, HB3.out.trans (hb4.mono HB3.out.size)⟩

theorem hexm_any (g : Nat) (L : List UInt8) (w : World) (hk : Kt w) (h : Ob w g L) (hl : L.length ≤ 1152921504606846975) :
    Calls Tryd.prog 15 #[.pointer (some ⟨g, 0, none⟩)] w fun e w' => e = .returned (.string (str (hexL L))) ∧ Below w.heap.size w w' := by
  have h1 := hsum_any g L w hk h hl
  have h2 := fun W => digits_any (str (sha L)) W (by rw [str_size, sha_length]; omega)
  rw [str_toList, show dgs (sha L) = hexL L from rfl] at h2
  generalize hexL L = M at *
  generalize sha L = A at *
  have H1 := Lib.hid h1
  have H2 := Lib.hid h2
  clear h1 h2 h hk
  go_enter Tryd.func15, Tryd.ntmps15
  go_wp2_with fail
  refine H1.out.mono ?_
  rintro e w1 ⟨rfl, hb1⟩
  go_wp2_with fail
  refine (H2.out _).mono ?_
  rintro e w2 ⟨rfl, hb2⟩
  go_wp2_with fail
  go_ret
  exact ⟨rfl, hb1.trans (hb2.mono hb1.size)⟩

theorem psum_any (s : ByteArray) (w : World) (hk : Kt w) (hs : s.size ≤ 1152921504606846975) :
    Calls Tryd.prog 9 #[.string s] w fun e w' => e = .returned (.string (str (sha s.data.toList))) ∧ Below w.heap.size w w' := by
  have hL : s.data.toList.length = s.size := by simp
  have hkl := hk.lt
  have hwr := fun W (a : Kt W) (b : Ob W w.heap.size []) => write_any w.heap.size [] s W a (by omega) b (by simp) (by omega)
  rw [List.nil_append] at hwr
  have hsm := fun W (a : Kt W) (b : Ob W w.heap.size s.data.toList) => hsum_any w.heap.size s.data.toList W a b (by omega)
  generalize sha s.data.toList = A at *
  generalize s.data.toList = L at *
  have HWR := Lib.hid hwr
  have HSM := Lib.hid hsm
  have HK := Lib.hid hk
  clear hwr hsm hk hL
  go_enter Tryd.func9, Tryd.ntmps9
  go_wp2_with fail
  refine (newh_any _).mono ?_
  rintro e w1 ⟨rfl, hob1, hb1⟩
  have HOB1 := Lib.hid hob1
  have HK1 := Lib.hid (HK.out.kept hb1)
  have HB1 := Lib.hid hb1
  clear hob1 hb1
  go_wp2_with fail
  refine (HWR.out _ HK1.out HOB1.out).mono ?_
  rintro e w2 ⟨rfl, hob2, hg2⟩
  have HB2 := Lib.hid (below_but HB1.out hg2 (Nat.le_refl _) HB1.out.size)
  have HK2 := Lib.hid (HK1.out.only hg2 (by omega))
  have HOB2 := Lib.hid hob2
  clear hob2 hg2
  go_wp2_with fail
  refine (HSM.out _ HK2.out HOB2.out).mono ?_
  rintro e w3 ⟨rfl, hb3⟩
  go_wp2_with fail
  go_ret
  exact ⟨rfl, HB2.out.trans (hb3.mono HB2.out.size)⟩

theorem phex_any (s : ByteArray) (w : World) (hk : Kt w) (hs : s.size ≤ 1152921504606846975) :
    Calls Tryd.prog 11 #[.string s] w fun e w' => e = .returned (.string (str (hexL s.data.toList))) ∧ Below w.heap.size w w' := by
  have h1 := psum_any s w hk hs
  have h2 := fun W => digits_any (str (sha s.data.toList)) W (by rw [str_size, sha_length]; omega)
  rw [str_toList, show dgs (sha s.data.toList) = hexL s.data.toList from rfl] at h2
  generalize hexL s.data.toList = M at *
  generalize sha s.data.toList = A at *
  have H1 := Lib.hid h1
  have H2 := Lib.hid h2
  clear h1 h2 hk
  go_enter Tryd.func11, Tryd.ntmps11
  go_wp2_with fail
  refine H1.out.mono ?_
  rintro e w1 ⟨rfl, hb1⟩
  go_wp2_with fail
  refine (H2.out _).mono ?_
  rintro e w2 ⟨rfl, hb2⟩
  go_wp2_with fail
  go_ret
  exact ⟨rfl, hb1.trans (hb2.mono hb1.size)⟩
end Go.Proofs.YtbejdfjioanjlaaDoor

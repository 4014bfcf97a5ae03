import Derived.Test.YtlkmhdbmcfblkaaGreatDoorRecs
import Derived.Test.YtlkmhdbmcfblkaaGreatDoorShelf
import Derived.Below
import Derived.Laws.OwnMore
import Derived.Laws.Rows
import Derived.Test.YtlkmhdbmcfblkaaGreatDoorRows
import Derived.Test.YtlkmhdbmcfblkaaGreatDoorNumMaths
import Derived.WalkKit
import Derived.WalkSpells
import Derived.WalkLawsBesides
import Derived.Lib.Hide
import Derived.Laws.IdiomStrings
/- What value.quoted answers: the text between quotes, each of its own twice. -/
namespace Go.Proofs.YtlkmhdbmcfblkaaGreatDoor.Val
open Go.RowKit Go.Proofs.YtlkmhdbmcfblkaaGreatDoor.Mem
set_option linter.unusedVariables false

theorem bytes_list (l : List UInt8) : (⟨l.toArray⟩ : ByteArray).data.toList = l := rfl
theorem bytes_size (l : List UInt8) : (⟨l.toArray⟩ : ByteArray).size = l.length := by simp [ByteArray.size]
theorem below_drawn {B : Nat} {w w' : World} (h : ∃ n, w' = w.drewN n) : Below B w w' := by
  obtain ⟨n, rfl⟩ := h
  exact ⟨rfl, rfl, rfl, Nat.le_refl _, fun _ _ => rfl⟩
theorem on2 {B : Nat} {w a b : World} (h : Below B w a) (hB : w.heap.size ≤ a.heap.size) (k : Below a.heap.size a b) (hw : B ≤ w.heap.size := by exact Nat.le_refl _) : Below B w b := h.trans (k.mono (Nat.le_trans hw hB))
theorem count_quote (s : ByteArray) (cn : Nat) (h : s.data.toList.count 39 = cn) (w : World) :
    Calls Tryz.prog 216 #[.string s, .string ⟨#[39]⟩] w fun e w' => e = .returned (.int .i64 (cn : Int)) ∧ w = w' :=
  (Tryz.strings_Count_one s 39 w).mono fun _ _ ⟨h1, h2⟩ => ⟨by rw [h1, ← h]; rfl, h2.symm⟩
theorem cut_none (s : ByteArray) (l : List UInt8) (hl : s.data.toList = l) (h : 39 ∉ l) (m : Int) (w : World) (hs : s.size < 4294967281) (hm : w.cell? ⟨2, 0, none⟩ = some (.int .i64 m)) :
    Calls Tryz.prog 217 #[.string s, .string ⟨#[39]⟩] w fun e w' => e = .returned (.tuple #[.string ⟨l.toArray⟩, .string ⟨#[]⟩, .bool false]) ∧ Below w.heap.size w w' :=
  (Tryz.strings_Cut s ⟨#[39]⟩ m w hs hm).mono fun _ _ ⟨h1, h2⟩ => ⟨by rw [h1, hl, show (⟨#[39]⟩ : ByteArray).data.toList = [39] from rfl, cut_no h], below_drawn h2⟩
theorem cut_some (s : ByteArray) (a r : List UInt8) (hl : s.data.toList = a ++ 39 :: r) (h : 39 ∉ a) (m : Int) (w : World) (hs : s.size < 4294967281) (hm : w.cell? ⟨2, 0, none⟩ = some (.int .i64 m)) :
    Calls Tryz.prog 217 #[.string s, .string ⟨#[39]⟩] w fun e w' => e = .returned (.tuple #[.string ⟨a.toArray⟩, .string ⟨r.toArray⟩, .bool true]) ∧ Below w.heap.size w w' :=
  (Tryz.strings_Cut s ⟨#[39]⟩ m w hs hm).mono fun _ _ ⟨h1, h2⟩ => ⟨by rw [h1, hl, show (⟨#[39]⟩ : ByteArray).data.toList = [39] from rfl, cut_yes r h], below_drawn h2⟩

set_option maxHeartbeats 1000000 in
theorem quoted_any (s : ByteArray) (m : Int) (w : World) (hs : s.size < 4294967281) (hm : w.cell? ⟨2, 0, none⟩ = some (.int .i64 m)) :
    Calls Tryz.prog 206 #[.string s] w fun e w' => e = .returned (.string ⟨(quo s.data.toList).toArray⟩) ∧ Below w.heap.size w w' := by
  obtain ⟨cn, hcn⟩ : ∃ cn, s.data.toList.count 39 = cn := ⟨_, rfl⟩
  have hcl : cn ≤ s.size := by rw [← hcn]; exact List.count_le_length
  obtain ⟨N, hN⟩ : ∃ N, (quo s.data.toList).length = N := ⟨_, rfl⟩
  have hsum : (s.size : Int) + (cn : Int) + 2 = (N : Int) := by
    have h := quo_len s.data.toList
    have h2 : s.data.toList.length = s.size := by rw [Array.length_toList]; rfl
    rw [hN, hcn, h2] at h; omega
  have hNle : N ≤ 8589934564 := by omega
  have hB0 : 2 < w.heap.size := cell_lt hm
  have HM := Lib.hid hm
  have HC := Lib.hid hcn
  have HN := Lib.hid hN
  have hmk := make_row w N (by omega)
  have HB := Lib.hid (Buf.made w N)
  have HB1 := Lib.hid ((Below.refl w.heap.size w).alloc (Nat.le_refl _) (.cells (madeCells (Value.int .u8 0).cells N) 5))
  clear hm hcn hN
  go_enter Tryz.func206, Tryz.ntmps206
  go_wp2_with (first | (go_at_call 216; refine (count_quote s cn HC.out _).mono ?_; rintro e w' ⟨rfl, rfl⟩) | (refine wpList_copy_list rfl (.tmp 15) _ rfl HB.out [39] 0 1 N rfl rfl rfl rfl (show 0 + 1 ≤ N by omega) ?_; intro w1 hb1 hk1; have HB2 := Lib.hid hb1; have HB3 := Lib.hid (hk1 _ _ HB1.out (Nat.le_refl _)); clear hb1 hk1))
  go_loopw [0, 4] (fun t i wr => ∃ done left : List UInt8, t = .string ⟨left.toArray⟩ ∧ i = .int .i64 (done.length : Nat) ∧ Hid (Buf wr w.heap.size N done) ∧ Hid (done ++ (q left ++ [39]) = quo s.data.toList) ∧ Hid (Below w.heap.size w wr) ∧ Hid (left.length ≤ s.size)) (fun _ i _ => N - (intOf i).toNat)
  case atStart => exact ⟨[39], s.data.toList, rfl, rfl, HB2, Lib.hid rfl, HB3, Lib.hid (Nat.le_of_eq (show s.data.toList.length = s.size by rw [Array.length_toList]; rfl))⟩
  case round =>
    obtain ⟨done, left, rfl, rfl, HD, HE, HW, HR⟩ := hrel
    have hle := HR.out
    have hmr := Lib.hid ((HW.out.cell (p := ⟨2, 0, none⟩) hB0).trans HM.out)
    have hlen := congrArg List.length HE.out
    rw [List.length_append, List.length_append, HN.out] at hlen
    have hls := bytes_size left
    rcases parted left with hp | ⟨a, r, hp, rfl⟩
    · have hq := q_free hp
      rw [hq] at hlen
      simp only [List.length_cons, List.length_nil] at hlen
      obtain ⟨p, hpd⟩ : ∃ p, done.length = p := ⟨_, rfl⟩
      obtain ⟨n, hnd⟩ : ∃ n, left.length = n := ⟨_, rfl⟩
      rw [hpd, hnd] at hlen
      have hsl := fun W => slice_row W w.heap.size N p p rfl (by omega)
      have hsl2 := fun W => slice_row W w.heap.size N (p + n) ((p : Int) + (n : Int)) (by omega) (by omega)
      rw [hpd]
      have HP := Lib.hid hpd
      have HL := Lib.hid hnd
      have HQ := Lib.hid hq
      have HS := Lib.hid (show (⟨left.toArray⟩ : ByteArray).size < 4294967281 by omega)
      have HX := Lib.hid hp
      clear hpd hnd hp hls hq hle
      go_wp2_with (first | (go_at_call 217; refine (cut_none ⟨left.toArray⟩ left rfl HX.out m _ HS.out hmr.out).mono ?_; rintro e w1 ⟨rfl, hb1⟩; have HD1 := Lib.hid (HD.out.below hb1 HD.out.lt); have HW1 := Lib.hid (on2 HW.out HW.out.size hb1); clear hb1) | (refine wpList_copy_list rfl (.tmp 26) (.tmp 27) rfl HD1.out left p n (N - p) HP.out HL.out rfl rfl (by omega) ?_; intro w2 hb2 hk2; have HD2 := Lib.hid hb2; have HW2 := Lib.hid (hk2 _ _ HW1.out (Nat.le_refl _)); clear hb2 hk2) | (refine wpList_copy_list rfl (.tmp 41) _ rfl HD2.out [39] (p + n) 1 (N - (p + n)) (by rw [List.length_append, HP.out, HL.out]) rfl rfl rfl (by omega) ?_; intro w3 hb3 hk3; have HW3 := Lib.hid (hk3 _ _ HW2.out (Nat.le_refl _)); have hrt := row_text _ _ _ _ hb3 (by rw [List.length_append, List.length_append, HP.out, HL.out]; simp only [List.length_cons, List.length_nil]; omega); clear hb3 hk3))
      go_ret
      refine ⟨rs ?_, HW3.out⟩
      rw [← HE.out, HQ.out]
    · have hq := q_part a r hp
      rw [hq] at hlen
      simp only [List.length_cons, List.length_nil, List.length_append] at hlen
      simp only [List.length_cons, List.length_append] at hle hls
      obtain ⟨p, hpd⟩ : ∃ p, done.length = p := ⟨_, rfl⟩
      obtain ⟨n, hnd⟩ : ∃ n, a.length = n := ⟨_, rfl⟩
      rw [hpd, hnd] at hlen
      rw [hnd] at hle hls
      have hsl := fun W => slice_row W w.heap.size N p p rfl (by omega)
      have hsl2 := fun W => slice_row W w.heap.size N (p + n) ((p : Int) + (n : Int)) (by omega) (by omega)
      rw [hpd]
      have HP := Lib.hid hpd
      have HL := Lib.hid hnd
      have HQ := Lib.hid hq
      have HS := Lib.hid (show (⟨(a ++ 39 :: r).toArray⟩ : ByteArray).size < 4294967281 by omega)
      have HX := Lib.hid hp
      have HR2 := Lib.hid (show r.length ≤ s.size by omega)
      have hpn : p + n + 2 ≤ N := by omega
      clear hpd hnd hp hls hq hle hlen
      go_wp2_with (first | (go_at_call 217; refine (cut_some ⟨(a ++ 39 :: r).toArray⟩ a r rfl HX.out m _ HS.out hmr.out).mono ?_; rintro e w1 ⟨rfl, hb1⟩; have HD1 := Lib.hid (HD.out.below hb1 HD.out.lt); have HW1 := Lib.hid (on2 HW.out HW.out.size hb1); clear hb1) | (refine wpList_copy_list rfl (.tmp 26) (.tmp 27) rfl HD1.out a p n (N - p) HP.out HL.out rfl rfl (by omega) ?_; intro w2 hb2 hk2; have HD2 := Lib.hid hb2; have HW2 := Lib.hid (hk2 _ _ HW1.out (Nat.le_refl _)); clear hb2 hk2) | (refine wpList_copy_list rfl (.tmp 35) _ rfl HD2.out [39, 39] (p + n) 2 (N - (p + n)) (by rw [List.length_append, HP.out, HL.out]) rfl rfl rfl (by omega) ?_; intro w3 hb3 hk3; have HD3 := Lib.hid hb3; have HW3 := Lib.hid (hk3 _ _ HW2.out (Nat.le_refl _)); clear hb3 hk3))
      go_roundw
      case rel =>
        refine ⟨(done ++ a) ++ [39, 39], r, rfl, ?_, HD3, Lib.hid ?_, HW3, HR2⟩
        · rw [List.length_append, List.length_append, HP.out, HL.out]; go_num
        · rw [← HE.out, HQ.out]; simp
      case measure => simp [intOf]; omega
end Go.Proofs.YtlkmhdbmcfblkaaGreatDoor.Val
/- The array that the digits are laid into: the block that the call makes for it, as long as nothing else is stored there. -/
namespace Go.Proofs.YtlkmhdbmcfblkaaGreatDoor.Num
open Go.RowKit

/-- Block g is the array of 20 bytes, with the cells cs, and may be written. -/
def ArrAt (w : World) (g : Nat) (cs : Array Value) : Prop := w.heap[g]? = some (.cells cs 207 (0, 0))

theorem ArrAt.made (w : World) (cs : Array Value) : ArrAt (w.alloc (.cells cs 207)) w.heap.size cs := by
  unfold ArrAt
  exact heap_alloc_new w _
theorem ArrAt.at_cell {w : World} {g : Nat} {cs : Array Value} (h : ArrAt w g cs) (i : Nat) : w.cell? ⟨g, i, none⟩ = cs[i]? :=
  cell_of_row w g i cs _ _ h
theorem ArrAt.open_ {w : World} {g : Nat} {cs : Array Value} (h : ArrAt w g cs) (i : Nat) : w.frozen? ⟨g, i, none⟩ = false := by
  have h' : w.heap[g]? = some (.cells cs 207 (0, 0)) := h
  simp only [World.frozen?, h']
  simp
theorem ArrAt.put {w : World} {g : Nat} {cs : Array Value} (h : ArrAt w g cs) (i : Nat) (v : Value) : ArrAt (w.setCell ⟨g, i, none⟩ v) g (cs.setIfInBounds i v) := by
  have h' : w.heap[g]? = some (.cells cs 207 (0, 0)) := h
  show (w.heap.modify g _)[g]? = _
  rw [Array.getElem?_modify, h']
  simp
end Go.Proofs.YtlkmhdbmcfblkaaGreatDoor.Num
/- What num.Digits answers. -/
namespace Go.Proofs.YtlkmhdbmcfblkaaGreatDoor.Num
open Go.RowKit
set_option linter.unusedVariables false

/-- The bytes of t stand from place p of the cells on. -/
def Tail (cs : Array Value) (p : Nat) (t : List UInt8) : Prop := cs.size = 20 ∧ t.length + p = 20 ∧ ∀ j (h : j < t.length), cs[p + j]? = some (.int .u8 (t[j].toNat : Int))

theorem Tail.put {cs : Array Value} {p : Nat} {t : List UInt8} {x : UInt8} {z : Int} (hx : (x.toNat : Int) = z) (h : Tail cs p t) (hp : 1 ≤ p) : Tail (cs.setIfInBounds (p - 1) (.int .u8 z)) (p - 1) (x :: t) := by
  subst hx
  obtain ⟨hs, hl, hc⟩ := h
  refine ⟨by simpa using hs, by simp; omega, fun j hj => ?_⟩
  cases j with
  | zero =>
    simp [show p - 1 < cs.size by omega]
  | succ j =>
    have hj' : j < t.length := by simpa using hj
    have := hc j hj'
    have e : p - 1 + (j + 1) = p + j := by omega
    rw [e, Array.getElem?_setIfInBounds_ne (by omega)]
    simpa using this
theorem Tail.push {cs : Array Value} {p m : Nat} {t : List UInt8} (h : Tail cs p t) (hp : 1 ≤ p) : Tail (cs.setIfInBounds (p - 1) (.int .u8 (48 + (m : Int) % 10))) (p - 1) (dc m :: t) :=
  h.put (dc_int m) hp
theorem arr_len : Tryz.prog.arrayLen 207 = 20 := by simp [Program.arrayLen, Tryz.underlying207]
theorem arr_elem : Tryz.prog.elem 207 = 5 := by simp [Program.elem, Tryz.underlying207]
theorem cells_byte : Tryz.prog.cellsOf 5 = 1 := by kernel_rfl
theorem slice_arr (W : World) (g q : Nat) (l : Int) (hl : l = q) (hq : q < 20) :
    (Instr.sliceAt 207 (.pointer (some ⟨g, 0, none⟩)) (some (.int .i64 l)) none none).run Tryz.prog W = .ok (.slice (some ⟨g, q, none⟩) (20 - q) (20 - q)) W := by
  subst hl
  rw [run_sliceAt_array_l W 207 ⟨g, 0, none⟩ (by rw [arr_len, arr_elem]; exact Tryz.underlying207) .i64 q (by omega) (by rw [arr_len]; omega), arr_len, arr_elem]
  have hs : (sizeOf 5).run Tryz.prog W = .ok 1 W := by kernel_rfl
  rw [hs]
  have h1 : ¬ 20 = ((q : Int)).toNat := by omega
  have h2 : ((q : Int)).toNat = q := by omega
  simp only [Result.andThen, slicedAt, h2] at h1 ⊢
  rw [if_neg h1]
  unfold Addr.add
  by_cases h0 : q = 0
  · subst h0; simp
  · simp [h0]
theorem text_of (W : World) (g q : Nat) (cs : Array Value) (t : List UInt8) (hb : ArrAt W g cs) (ht : Tail cs q t) :
    (convert 83 9 (.slice (some ⟨g, q, none⟩) (20 - q) (20 - q))).run Tryz.prog W = .ok (.string ⟨t.toArray⟩) W := by
  have e : 20 - q = t.length := by have := ht.2.1; omega
  rw [e]
  refine run_convert_bytes_back W 83 9 5 ⟨g, q, none⟩ _ t Tryz.underlying83 Tryz.underlying5 Tryz.underlying9 fun j hj => ?_
  have h := ht.2.2 j hj
  have e2 : (⟨g, q, none⟩ : Addr).add j = ⟨g, q + j, none⟩ := by unfold Addr.add; split <;> simp_all
  rw [e2, hb.at_cell]; exact h

set_option maxHeartbeats 400000 in
set_option maxRecDepth 100000 in
theorem digits_pos (n : Nat) (hn : n ≤ 9223372036854775807) (w : World) :
    Calls Tryz.prog 205 #[.int .i64 (n : Int)] w fun e w' => e = .returned (.string ⟨(dg n).toArray⟩) ∧ Below w.heap.size w w' := by
  have hl := dg_len19 (show n ≤ 9223372036854775808 by omega)
  go_enter Tryz.func205, Tryz.ntmps205
  go_wp2
  go_loopw [4, 5] (fun l i wr => ∃ (m p : Nat) (cs : Array Value) (t : List UInt8), l = .int .u64 (m : Int) ∧ i = .int .i64 (p : Int) ∧ ArrAt wr w.heap.size cs ∧ Tail cs p t ∧ dg m ++ t = dg n ∧ m ≤ n ∧ Below w.heap.size w wr) (fun _ i _ => (intOf i).toNat)
  case atStart =>
    exact ⟨n, 20, _, [], rfl, rfl, ArrAt.made _ _, ⟨rfl, rfl, fun j h => by simp at h⟩, by simp, Nat.le_refl _, (Below.refl _ _).alloc (Nat.le_refl _) _⟩
  case round =>
    obtain ⟨m, p, cs, t, rfl, rfl, hb, ⟨hs, ht, hc⟩, hd, hmn, hw⟩ := hrel
    have hm1 := dg_pos m
    have hlen := congrArg List.length hd
    rw [List.length_append] at hlen
    have hp : 2 ≤ p ∧ p ≤ 20 := by omega
    obtain ⟨v, hv⟩ : ∃ v, cs[p - 1]? = some v := ⟨cs[p - 1]'(by omega), Array.getElem?_eq_getElem (by omega)⟩
    have hcell := (hb.at_cell (p - 1)).trans hv
    have hfz := hb.open_ (p - 1)
    have HB := Lib.hid hb
    have HC := Lib.hid hc
    have HD := Lib.hid hd
    have HT := Lib.hid ht
    have HS := Lib.hid hs
    clear hb hc hd ht hs hv hlen
    have hsl : ∀ W : World, (Instr.sliceAt 207 (.pointer (some ⟨w.heap.size, 0, none⟩)) (some (.int .i64 ((p : Int) - 1))) none none).run Tryz.prog W = .ok (.slice (some ⟨w.heap.size, p - 1, none⟩) (20 - (p - 1)) (20 - (p - 1))) W :=
      fun W => slice_arr W _ (p - 1) _ (by omega) (by omega)
    have hB1 := HB.out.put (p - 1) (.int .u8 (48 + (m : Int) % 10))
    have hT1 := Tail.push (m := m) ⟨HS.out, HT.out, HC.out⟩ (by omega)
    by_cases h10 : m < 10
    · have hq : ((m : Int) / 10 == 0) = true := by simp; omega
      have htx := text_of _ _ _ _ _ hB1 hT1
      clear hB1 hT1
      go_wp2
      go_ret
      exact ⟨ret_str (by rw [← HD.out, dg_small h10]; rfl), hw.setCell (Nat.le_refl _) _⟩
    · have hq : ((m : Int) / 10 == 0) = false := by simp; omega
      have HB1 := Lib.hid hB1
      have HT1 := Lib.hid hT1
      clear hB1 hT1 hsl
      go_wp2
      go_roundw
      case rel =>
        refine ⟨m / 10, p - 1, _, _, by go_num, by go_num, HB1.out, HT1.out, ?_, by omega, ?_⟩
        · rw [← HD.out, dg_step h10]; simp
        · exact hw.setCell (Nat.le_refl _) _
      case measure => simp [intOf]; omega
set_option maxHeartbeats 400000 in
set_option maxRecDepth 100000 in
theorem digits_neg (n : Nat) (h0 : 1 ≤ n) (hn : n ≤ 9223372036854775808) (w : World) :
    Calls Tryz.prog 205 #[.int .i64 (-(n : Int))] w fun e w' => e = .returned (.string ⟨(45 :: dg n).toArray⟩) ∧ Below w.heap.size w w' := by
  have hl := dg_len19 (show n ≤ 9223372036854775808 by omega)
  go_enter Tryz.func205, Tryz.ntmps205
  go_wp2
  go_loopw [4, 5] (fun l i wr => ∃ (m p : Nat) (cs : Array Value) (t : List UInt8), l = .int .u64 (m : Int) ∧ i = .int .i64 (p : Int) ∧ ArrAt wr w.heap.size cs ∧ Tail cs p t ∧ dg m ++ t = dg n ∧ m ≤ n ∧ Below w.heap.size w wr) (fun _ i _ => (intOf i).toNat)
  case atStart =>
    exact ⟨n, 20, _, [], val_u64 (wrap_neg2 hn), rfl, ArrAt.made _ _, ⟨rfl, rfl, fun j h => by simp at h⟩, by simp, Nat.le_refl _, (Below.refl _ _).alloc (Nat.le_refl _) _⟩
  case round =>
    obtain ⟨m, p, cs, t, rfl, rfl, hb, ⟨hs, ht, hc⟩, hd, hmn, hw⟩ := hrel
    have hm1 := dg_pos m
    have hlen := congrArg List.length hd
    rw [List.length_append] at hlen
    have hp : 2 ≤ p ∧ p ≤ 20 := by omega
    obtain ⟨v, hv⟩ : ∃ v, cs[p - 1]? = some v := ⟨cs[p - 1]'(by omega), Array.getElem?_eq_getElem (by omega)⟩
    have hcell := (hb.at_cell (p - 1)).trans hv
    have hfz := hb.open_ (p - 1)
    have HB := Lib.hid hb
    have HC := Lib.hid hc
    have HD := Lib.hid hd
    have HT := Lib.hid ht
    have HS := Lib.hid hs
    clear hb hc hd ht hs hv hlen
    have hsl : ∀ W : World, (Instr.sliceAt 207 (.pointer (some ⟨w.heap.size, 0, none⟩)) (some (.int .i64 ((p : Int) - 1 - 1))) none none).run Tryz.prog W = .ok (.slice (some ⟨w.heap.size, p - 1 - 1, none⟩) (20 - (p - 1 - 1)) (20 - (p - 1 - 1))) W :=
      fun W => slice_arr W _ (p - 1 - 1) _ (by omega) (by omega)
    have hB1 := HB.out.put (p - 1) (.int .u8 (48 + (m : Int) % 10))
    have hT1 := Tail.push (m := m) ⟨HS.out, HT.out, HC.out⟩ (by omega)
    by_cases h10 : m < 10
    · have hq : ((m : Int) / 10 == 0) = true := by simp; omega
      have hp2 : 1 ≤ p - 1 := by omega
      obtain ⟨v2, hv2⟩ : ∃ v, cs[p - 1 - 1]? = some v := ⟨cs[p - 1 - 1]'(by have := HS.out; omega), Array.getElem?_eq_getElem (by have := HS.out; omega)⟩
      have hcell2 := (HB.out.at_cell (p - 1 - 1)).trans hv2
      have hfz2 := HB.out.open_ (p - 1 - 1)
      have htx := text_of _ _ _ _ _ (hB1.put (p - 1 - 1) (.int .u8 45)) (hT1.put (x := 45) (z := 45) rfl hp2)
      clear hB1 hT1 hv2
      go_wp2
      go_ret
      exact ⟨ret_str (by rw [← HD.out, dg_small h10]; rfl), (hw.setCell (Nat.le_refl _) _).setCell (Nat.le_refl _) _⟩
    · have hq : ((m : Int) / 10 == 0) = false := by simp; omega
      have HB1 := Lib.hid hB1
      have HT1 := Lib.hid hT1
      clear hB1 hT1 hsl
      go_wp2
      go_roundw
      case rel =>
        refine ⟨m / 10, p - 1, _, _, by go_num, by go_num, HB1.out, HT1.out, ?_, by omega, ?_⟩
        · rw [← HD.out, dg_step h10]; simp
        · exact hw.setCell (Nat.le_refl _) _
      case measure => simp [intOf]; omega

set_option maxRecDepth 100000 in
theorem digits_any (a : Int) (ha : -9223372036854775808 ≤ a) (ha' : a ≤ 9223372036854775807) (w : World) :
    Calls Tryz.prog 205 #[.int .i64 a] w fun e w' => e = .returned (.string ⟨(dgz a).toArray⟩) ∧ Below w.heap.size w w' := by
  by_cases h : a < 0
  · have e : a = -((a.natAbs : Nat) : Int) := by omega
    have k : dgz a = 45 :: dg a.natAbs := by unfold dgz; rw [if_pos h]
    rw [k]
    have := digits_neg a.natAbs (by omega) (by omega) w
    rw [← e] at this; exact this
  · have e : a = ((a.natAbs : Nat) : Int) := by omega
    have k : dgz a = dg a.natAbs := by unfold dgz; rw [if_neg h]
    rw [k]
    have := digits_pos a.natAbs (by omega) w
    rw [← e] at this; exact this
end Go.Proofs.YtlkmhdbmcfblkaaGreatDoor.Num
/- What value.Show and value.Right answer. -/
namespace Go.Proofs.YtlkmhdbmcfblkaaGreatDoor.Val
open Go.RowKit Go.Proofs.YtlkmhdbmcfblkaaGreatDoor.Mem
set_option linter.unusedVariables false

theorem empty_or (s : ByteArray) : s = ⟨#[]⟩ ∨ (¬ s.data.toList = [] ∧ (s.toList == []) = false) := by
  by_cases h : s.data.toList = []
  · left; apply WideShapes.bytes_inj; exact h
  · right; refine ⟨h, ?_⟩
    rw [Lib.toList_data]; simpa using h
theorem held_alloc {w : World} {b : Nat} {v : Value} (h : w.cell? ⟨b, 0, none⟩ = some v) (o : Obj) : (w.alloc o).cell? ⟨b, 0, none⟩ = some v :=
  (((Below.refl _ w).alloc (Nat.le_refl _) o).cell (p := ⟨b, 0, none⟩) (cell_lt h)).trans h
theorem held_below {w w' : World} {b : Nat} {v : Value} (h : w.cell? ⟨b, 0, none⟩ = some v) (hb : Below w.heap.size w w') : w'.cell? ⟨b, 0, none⟩ = some v :=
  (hb.cell (p := ⟨b, 0, none⟩) (cell_lt h)).trans h

theorem show_0 {k n : Int} {l : List UInt8} (h : k = 0) : showV k n l = wNull := by unfold showV; rw [if_pos h]
theorem show_1 {n : Int} {l : List UInt8} : showV 1 n l = Num.dgz n := rfl
theorem show_2a {l : List UInt8} : showV 2 1 l = wTrue := rfl
theorem show_2b {n : Int} {l : List UInt8} (h : ¬ n = 1) : showV 2 n l = wFalse := by unfold showV; rw [if_neg (by decide), if_neg (by decide), if_pos rfl, if_neg h]
theorem show_3 {n : Int} {l : List UInt8} : showV 3 n l = quo l := rfl
theorem show_no {k n : Int} {l : List UInt8} (h0 : ¬ k = 0) (h1 : ¬ k = 1) (h2 : ¬ k = 2) (h3 : ¬ k = 3) : showV k n l = [] := by unfold showV; rw [if_neg h0, if_neg h1, if_neg h2, if_neg h3]

set_option maxHeartbeats 1000000 in
theorem show_any (k n : Int) (s : ByteArray) (m : Int) (w : World) (hn : -9223372036854775808 ≤ n) (hn' : n ≤ 9223372036854775807) (hs : s.size < 4294967281) (hm : w.cell? ⟨2, 0, none⟩ = some (.int .i64 m)) :
    Calls Tryz.prog 191 #[.agg #[.int .i64 k, .int .i64 n, .string s]] w fun e w' => e = .returned (.string ⟨(showV k n s.data.toList).toArray⟩) ∧ Below w.heap.size w w' := by
  have HM := Lib.hid hm
  clear hm
  by_cases h0 : k = 0
  · subst h0
    go_enter Tryz.func191, Tryz.ntmps191
    go_wp2
    go_ret
    exact ⟨rfl, al (Below.refl _ _) _⟩
  by_cases h1 : k = 1
  · subst h1
    go_enter Tryz.func191, Tryz.ntmps191
    go_wp2_with (go_at_call 205; (with_reducible refine (Num.digits_any n hn hn' _).mono ?_); rintro e w' ⟨rfl, hb⟩)
    go_ret
    exact ⟨rfl, on (al (Below.refl _ _) _) hb⟩
  by_cases h2 : k = 2
  · subst h2
    by_cases h : n = 1
    · subst h
      go_enter Tryz.func191, Tryz.ntmps191
      go_wp2
      go_ret
      exact ⟨rfl, al (Below.refl _ _) _⟩
    · have t := beq_no h
      have H := Lib.hid (show_2b (l := s.data.toList) h)
      clear h
      go_enter Tryz.func191, Tryz.ntmps191
      go_wp2
      go_ret
      exact ⟨rs (by rw [H.out]; rfl), al (Below.refl _ _) _⟩
  by_cases h3 : k = 3
  · subst h3
    go_enter Tryz.func191, Tryz.ntmps191
    go_wp2_with (go_at_call 206; (with_reducible refine (quoted_any s m _ hs (held_alloc HM.out _)).mono ?_); rintro e w' ⟨rfl, hb⟩)
    go_ret
    exact ⟨rfl, on (al (Below.refl _ _) _) hb⟩
  · have k0 := beq_no h0
    have k1 := beq_no h1
    have k2 := beq_no h2
    have k3 := beq_no h3
    have H := Lib.hid (show_no (n := n) (l := s.data.toList) h0 h1 h2 h3)
    clear h0 h1 h2 h3
    go_enter Tryz.func191, Tryz.ntmps191
    go_wp2
    go_ret
    exact ⟨rs (by rw [H.out]), al (Below.refl _ _) _⟩

theorem ok_0 {n : Int} {l : List UInt8} : okV 0 n l = (decide (n = 0) && decide (l = [])) := rfl
theorem ok_1 {n : Int} {l : List UInt8} : okV 1 n l = decide (l = []) := rfl
theorem ok_2 {n : Int} {l : List UInt8} : okV 2 n l = ((decide (n = 0) || decide (n = 1)) && decide (l = [])) := rfl
theorem ok_3 {n : Int} {l : List UInt8} : okV 3 n l = (decide (n = 0) && decide (l.length ≤ 32) && pl l) := rfl
theorem ok_no {k n : Int} {l : List UInt8} (h0 : ¬ k = 0) (h1 : ¬ k = 1) (h2 : ¬ k = 2) (h3 : ¬ k = 3) : okV k n l = false := by unfold okV; rw [if_neg h0, if_neg h1, if_neg h2, if_neg h3]

set_option maxHeartbeats 1000000 in
theorem right_any (k n : Int) (s : ByteArray) (w : World) (hs : s.size ≤ maxLen) :
    Calls Tryz.prog 204 #[.agg #[.int .i64 k, .int .i64 n, .string s]] w fun e w' => e = .returned (.bool (okV k n s.data.toList)) ∧ Below w.heap.size w w' := by
  by_cases h0 : k = 0
  · subst h0
    by_cases hn : n = 0
    · subst hn
      rcases empty_or s with rfl | ⟨he, t⟩
      · go_enter Tryz.func204, Tryz.ntmps204
        go_wp2
        go_ret
        exact ⟨rfl, al (Below.refl _ _) _⟩
      · have H := Lib.hid (show okV 0 0 s.data.toList = false by rw [ok_0, decide_eq_false he]; rfl)
        clear he
        go_enter Tryz.func204, Tryz.ntmps204
        go_wp2
        go_ret
        exact ⟨rb H.out.symm, al (Below.refl _ _) _⟩
    · have t := beq_no hn
      have H := Lib.hid (show okV 0 n s.data.toList = false by rw [ok_0, decide_eq_false hn]; rfl)
      clear hn
      go_enter Tryz.func204, Tryz.ntmps204
      go_wp2
      go_ret
      exact ⟨rb H.out.symm, al (Below.refl _ _) _⟩
  by_cases h1 : k = 1
  · subst h1
    rcases empty_or s with rfl | ⟨he, t⟩
    · go_enter Tryz.func204, Tryz.ntmps204
      go_wp2
      go_ret
      exact ⟨rfl, al (Below.refl _ _) _⟩
    · have H := Lib.hid (show okV 1 n s.data.toList = false by rw [ok_1, decide_eq_false he])
      clear he
      go_enter Tryz.func204, Tryz.ntmps204
      go_wp2
      go_ret
      exact ⟨rb H.out.symm, al (Below.refl _ _) _⟩
  by_cases h2 : k = 2
  · subst h2
    by_cases hn : n = 0
    · subst hn
      rcases empty_or s with rfl | ⟨he, t⟩
      · go_enter Tryz.func204, Tryz.ntmps204
        go_wp2
        go_ret
        exact ⟨rfl, al (Below.refl _ _) _⟩
      · have H := Lib.hid (show okV 2 0 s.data.toList = false by rw [ok_2, decide_eq_false he, Bool.and_false])
        clear he
        go_enter Tryz.func204, Tryz.ntmps204
        go_wp2
        go_ret
        exact ⟨rb H.out.symm, al (Below.refl _ _) _⟩
    by_cases hn1 : n = 1
    · subst hn1
      rcases empty_or s with rfl | ⟨he, t⟩
      · go_enter Tryz.func204, Tryz.ntmps204
        go_wp2
        go_ret
        exact ⟨rfl, al (Below.refl _ _) _⟩
      · have H := Lib.hid (show okV 2 1 s.data.toList = false by rw [ok_2, decide_eq_false he, Bool.and_false])
        clear he
        go_enter Tryz.func204, Tryz.ntmps204
        go_wp2
        go_ret
        exact ⟨rb H.out.symm, al (Below.refl _ _) _⟩
    · have t := beq_no hn
      have t1 := beq_no hn1
      have H := Lib.hid (show okV 2 n s.data.toList = false by rw [ok_2, decide_eq_false hn, decide_eq_false hn1]; rfl)
      clear hn hn1
      go_enter Tryz.func204, Tryz.ntmps204
      go_wp2
      go_ret
      exact ⟨rb H.out.symm, al (Below.refl _ _) _⟩
  by_cases h3 : k = 3
  · subst h3
    have hsz : s.data.toList.length = s.size := by rw [Array.length_toList]; rfl
    by_cases hn : n = 0
    · subst hn
      by_cases hl : s.size ≤ 32
      · have t : decide ((s.size : Int) ≤ 32) = true := decide_eq_true (by omega)
        have H := Lib.hid (show okV 3 0 s.data.toList = pl s.data.toList by rw [ok_3, hsz, decide_eq_true hl]; rfl)
        clear hl hsz
        go_enter Tryz.func204, Tryz.ntmps204
        go_wp2_with (go_at_call 215; (with_reducible refine (plain_any s hs _).mono ?_); rintro e w' ⟨rfl, rfl⟩)
        go_ret
        exact ⟨rb H.out.symm, al (Below.refl _ _) _⟩
      · have t : decide ((s.size : Int) ≤ 32) = false := decide_eq_false (by omega)
        have H := Lib.hid (show okV 3 0 s.data.toList = false by rw [ok_3, hsz, decide_eq_false hl, Bool.and_false]; rfl)
        clear hl hsz
        go_enter Tryz.func204, Tryz.ntmps204
        go_wp2
        go_ret
        exact ⟨rb H.out.symm, al (Below.refl _ _) _⟩
    · have t := beq_no hn
      have H := Lib.hid (show okV 3 n s.data.toList = false by rw [ok_3, decide_eq_false hn]; rfl)
      clear hn hsz
      go_enter Tryz.func204, Tryz.ntmps204
      go_wp2
      go_ret
      exact ⟨rb H.out.symm, al (Below.refl _ _) _⟩
  · have k0 := beq_no h0
    have k1 := beq_no h1
    have k2 := beq_no h2
    have k3 := beq_no h3
    have H := Lib.hid (ok_no (n := n) (l := s.data.toList) h0 h1 h2 h3)
    clear h0 h1 h2 h3
    go_enter Tryz.func204, Tryz.ntmps204
    go_wp2
    go_ret
    exact ⟨rb H.out.symm, al (Below.refl _ _) _⟩
end Go.Proofs.YtlkmhdbmcfblkaaGreatDoor.Val

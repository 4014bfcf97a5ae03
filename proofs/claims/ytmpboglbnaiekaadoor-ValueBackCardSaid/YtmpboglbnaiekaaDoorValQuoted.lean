/- What value.quoted answers: the text between quotes, each of its own twice. -/
import Derived.Test.YtmpboglbnaiekaaDoorValSmall
import Derived.Test.YtmpboglbnaiekaaDoorMemBuf
import Derived.Test.YtmpboglbnaiekaaDoorShelf
namespace Go.Proofs.YtmpboglbnaiekaaDoor.Val
open Go.RowKit Go.Proofs.YtmpboglbnaiekaaDoor.Mem
set_option linter.unusedVariables false

theorem bytes_list (l : List UInt8) : (⟨l.toArray⟩ : ByteArray).data.toList = l := rfl
theorem bytes_size (l : List UInt8) : (⟨l.toArray⟩ : ByteArray).size = l.length := by simp [ByteArray.size]
theorem below_drawn {B : Nat} {w w' : World} (h : ∃ n, w' = w.drewN n) : Below B w w' := by
  obtain ⟨n, rfl⟩ := h
  exact ⟨rfl, rfl, rfl, Nat.le_refl _, fun _ _ => rfl⟩
theorem on2 {B : Nat} {w a b : World} (h : Below B w a) (hB : w.heap.size ≤ a.heap.size) (k : Below a.heap.size a b) (hw : B ≤ w.heap.size := by exact Nat.le_refl _) : Below B w b := h.trans (k.mono (Nat.le_trans hw hB))
theorem count_quote (s : ByteArray) (cn : Nat) (h : s.data.toList.count 39 = cn) (w : World) :
    Calls Tryd.prog 30 #[.string s, .string ⟨#[39]⟩] w fun e w' => e = .returned (.int .i64 (cn : Int)) ∧ w = w' :=
  (Tryd.strings_Count_one s 39 w).mono fun _ _ ⟨h1, h2⟩ => ⟨by rw [h1, ← h]; rfl, h2.symm⟩
theorem cut_none (s : ByteArray) (l : List UInt8) (hl : s.data.toList = l) (h : 39 ∉ l) (m : Int) (w : World) (hs : s.size < 4294967281) (hm : w.cell? ⟨0, 0, none⟩ = some (.int .i64 m)) :
    Calls Tryd.prog 31 #[.string s, .string ⟨#[39]⟩] w fun e w' => e = .returned (.tuple #[.string ⟨l.toArray⟩, .string ⟨#[]⟩, .bool false]) ∧ Below w.heap.size w w' :=
  (Tryd.strings_Cut s ⟨#[39]⟩ m w hs hm).mono fun _ _ ⟨h1, h2⟩ => ⟨by rw [h1, hl, show (⟨#[39]⟩ : ByteArray).data.toList = [39] from rfl, cut_no h], below_drawn h2⟩
theorem cut_some (s : ByteArray) (a r : List UInt8) (hl : s.data.toList = a ++ 39 :: r) (h : 39 ∉ a) (m : Int) (w : World) (hs : s.size < 4294967281) (hm : w.cell? ⟨0, 0, none⟩ = some (.int .i64 m)) :
    Calls Tryd.prog 31 #[.string s, .string ⟨#[39]⟩] w fun e w' => e = .returned (.tuple #[.string ⟨a.toArray⟩, .string ⟨r.toArray⟩, .bool true]) ∧ Below w.heap.size w w' :=
  (Tryd.strings_Cut s ⟨#[39]⟩ m w hs hm).mono fun _ _ ⟨h1, h2⟩ => ⟨by rw [h1, hl, show (⟨#[39]⟩ : ByteArray).data.toList = [39] from rfl, cut_yes r h], below_drawn h2⟩

set_option maxHeartbeats 1000000 in
theorem quoted_any (s : ByteArray) (m : Int) (w : World) (hs : s.size < 4294967281) (hm : w.cell? ⟨0, 0, none⟩ = some (.int .i64 m)) :
    Calls Tryd.prog 18 #[.string s] w fun e w' => e = .returned (.string ⟨(quo s.data.toList).toArray⟩) ∧ Below w.heap.size w w' := by
  obtain ⟨cn, hcn⟩ : ∃ cn, s.data.toList.count 39 = cn := ⟨_, rfl⟩
  have hcl : cn ≤ s.size := by rw [← hcn]; exact List.count_le_length
  obtain ⟨N, hN⟩ : ∃ N, (quo s.data.toList).length = N := ⟨_, rfl⟩
  have hsum : (s.size : Int) + (cn : Int) + 2 = (N : Int) := by
    have h := quo_len s.data.toList
    have h2 : s.data.toList.length = s.size := by rw [Array.length_toList]; rfl
    rw [hN, hcn, h2] at h; omega
  have hNle : N ≤ 8589934564 := by omega
  have hB0 : 0 < w.heap.size := cell_lt hm
  have HM := Lib.hid hm
  have HC := Lib.hid hcn
  have HN := Lib.hid hN
  have hmk := make_row w N (by omega)
  have HB := Lib.hid (Buf.made w N)
  have HB1 := Lib.hid ((Below.refl w.heap.size w).alloc (Nat.le_refl _) (.cells (madeCells (Value.int .u8 0).cells N) 5))
  clear hm hcn hN
  go_enter Tryd.func18, Tryd.ntmps18
  go_wp2_with (first | (go_at_call 30; refine (count_quote s cn HC.out _).mono ?_; rintro e w' ⟨rfl, rfl⟩) | (refine wpList_copy_list rfl (.tmp 15) _ rfl HB.out [39] 0 1 N rfl rfl rfl rfl (show 0 + 1 ≤ N by omega) ?_; intro w1 hb1 hk1; have HB2 := Lib.hid hb1; have HB3 := Lib.hid (hk1 _ _ HB1.out (Nat.le_refl _)); clear hb1 hk1))
  go_loopw [0, 4] (fun t i wr => ∃ done left : List UInt8, t = .string ⟨left.toArray⟩ ∧ i = .int .i64 (done.length : Nat) ∧ Hid (Buf wr w.heap.size N done) ∧ Hid (done ++ (q left ++ [39]) = quo s.data.toList) ∧ Hid (Below w.heap.size w wr) ∧ Hid (left.length ≤ s.size)) (fun _ i _ => N - (intOf i).toNat)
  case atStart => exact ⟨[39], s.data.toList, rfl, rfl, HB2, Lib.hid rfl, HB3, Lib.hid (Nat.le_of_eq (show s.data.toList.length = s.size by rw [Array.length_toList]; rfl))⟩
  case round =>
    obtain ⟨done, left, rfl, rfl, HD, HE, HW, HR⟩ := hrel
    have hle := HR.out
    have hmr := Lib.hid ((HW.out.cell (p := ⟨0, 0, none⟩) hB0).trans HM.out)
    have hlen := congrArg List.length HE.out
    rw [List.length_append, List.length_append, HN.out] at hlen
    have hls := bytes_size left
    rcases parted left with hp | ⟨a, r, hp, rfl⟩
    · have hq := q_free hp
      rw [hq] at hlen
      simp only [List.length_cons, List.length_nil] at hlen
      obtain ⟨p, hpd⟩ : ∃ p, done.length = p := ⟨_, rfl⟩
      obtain ⟨n, hnd⟩ : ∃ n, left.length = n := ⟨_, rfl⟩
      rw [hpd, hnd] at hlen
      have hsl := fun W => slice_row W w.heap.size N p p rfl (by omega)
      have hsl2 := fun W => slice_row W w.heap.size N (p + n) ((p : Int) + (n : Int)) (by omega) (by omega)
      rw [hpd]
      have HP := Lib.hid hpd
      have HL := Lib.hid hnd
      have HQ := Lib.hid hq
      have HS := Lib.hid (show (⟨left.toArray⟩ : ByteArray).size < 4294967281 by omega)
      have HX := Lib.hid hp
      clear hpd hnd hp hls hq hle
      go_wp2_with (first | (go_at_call 31; refine (cut_none ⟨left.toArray⟩ left rfl HX.out m _ HS.out hmr.out).mono ?_; rintro e w1 ⟨rfl, hb1⟩; have HD1 := Lib.hid (HD.out.below hb1 HD.out.lt); have HW1 := Lib.hid (on2 HW.out HW.out.size hb1); clear hb1) | (refine wpList_copy_list rfl (.tmp 26) (.tmp 27) rfl HD1.out left p n (N - p) HP.out HL.out rfl rfl (by omega) ?_; intro w2 hb2 hk2; have HD2 := Lib.hid hb2; have HW2 := Lib.hid (hk2 _ _ HW1.out (Nat.le_refl _)); clear hb2 hk2) | (refine wpList_copy_list rfl (.tmp 41) _ rfl HD2.out [39] (p + n) 1 (N - (p + n)) (by rw [List.length_append, HP.out, HL.out]) rfl rfl rfl (by omega) ?_; intro w3 hb3 hk3; have HW3 := Lib.hid (hk3 _ _ HW2.out (Nat.le_refl _)); have hrt := row_text _ _ _ _ hb3 (by rw [List.length_append, List.length_append, HP.out, HL.out]; simp only [List.length_cons, List.length_nil]; omega); clear hb3 hk3))
      go_ret
      refine ⟨rs ?_, HW3.out⟩
      rw [← HE.out, HQ.out]
    · have hq := q_part a r hp
      rw [hq] at hlen
      simp only [List.length_cons, List.length_nil, List.length_append] at hlen
      simp only [List.length_cons, List.length_append] at hle hls
      obtain ⟨p, hpd⟩ : ∃ p, done.length = p := ⟨_, rfl⟩
      obtain ⟨n, hnd⟩ : ∃ n, a.length = n := ⟨_, rfl⟩
      rw [hpd, hnd] at hlen
      rw [hnd] at hle hls
      have hsl := fun W => slice_row W w.heap.size N p p rfl (by omega)
      have hsl2 := fun W => slice_row W w.heap.size N (p + n) ((p : Int) + (n : Int)) (by omega) (by omega)
      rw [hpd]
      have HP := Lib.hid hpd
      have HL := Lib.hid hnd
      have HQ := Lib.hid hq
      have HS := Lib.hid (show (⟨(a ++ 39 :: r).toArray⟩ : ByteArray).size < 4294967281 by omega)
      have HX := Lib.hid hp
      have HR2 := Lib.hid (show r.length ≤ s.size by omega)
      have hpn : p + n + 2 ≤ N := by omega
      clear hpd hnd hp hls hq hle hlen
      go_wp2_with (first | (go_at_call 31; refine (cut_some ⟨(a ++ 39 :: r).toArray⟩ a r rfl HX.out m _ HS.out hmr.out).mono ?_; rintro e w1 ⟨rfl, hb1⟩; have HD1 := Lib.hid (HD.out.below hb1 HD.out.lt); have HW1 := Lib.hid (on2 HW.out HW.out.size hb1); clear hb1) | (refine wpList_copy_list rfl (.tmp 26) (.tmp 27) rfl HD1.out a p n (N - p) HP.out HL.out rfl rfl (by omega) ?_; intro w2 hb2 hk2; have HD2 := Lib.hid hb2; have HW2 := Lib.hid (hk2 _ _ HW1.out (Nat.le_refl _)); clear hb2 hk2) | (refine wpList_copy_list rfl (.tmp 35) _ rfl HD2.out [39, 39] (p + n) 2 (N - (p + n)) (by rw [List.length_append, HP.out, HL.out]) rfl rfl rfl (by omega) ?_; intro w3 hb3 hk3; have HD3 := Lib.hid hb3; have HW3 := Lib.hid (hk3 _ _ HW2.out (Nat.le_refl _)); clear hb3 hk3))
      go_roundw
      case rel =>
        refine ⟨(done ++ a) ++ [39, 39], r, rfl, ?_, HD3, Lib.hid ?_, HW3, HR2⟩
        · rw [List.length_append, List.length_append, HP.out, HL.out]; go_num
        · rw [← HE.out, HQ.out]; simp
      case measure => simp [intOf]; omega
end Go.Proofs.YtmpboglbnaiekaaDoor.Val

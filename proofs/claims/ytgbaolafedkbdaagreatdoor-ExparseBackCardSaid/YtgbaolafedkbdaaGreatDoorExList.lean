/- Some in brackets, a comma between each two, are written. -/
import Derived.Test.YtgbaolafedkbdaaGreatDoorExUn
import Derived.Test.YtgbaolafedkbdaaGreatDoorExBareBs
import Derived.Deep.CutRange
namespace Go.Proofs.YtgbaolafedkbdaaGreatDoor.Ep
open Go.RowKit Go.Proofs.YtgbaolafedkbdaaGreatDoor.Mem Go.Proofs.YtgbaolafedkbdaaGreatDoor.Right Go.Proofs.YtgbaolafedkbdaaGreatDoor.Lx
set_option linter.unusedVariables false

theorem pcsL_snoc (x : Ex) : ∀ {l : List Ex}, l ≠ [] → pcsL (l ++ [x]) = pcsL l ++ (some (sgn6 44) :: pcs x)
  | [], h => absurd rfl h
  | [a], _ => by rw [List.singleton_append, pcsL_more, pcsL_one, pcsL_one]
  | a :: c :: l, _ => by
    rw [List.cons_append, List.cons_append, pcsL_more, pcsL_more, ← List.cons_append, pcsL_snoc x (l := c :: l) (by simp), List.append_assoc]
    rfl
/-- The text of the first so many. -/
def tL (l : List Ex) (j : Nat) : List UInt8 := tx (pcsL (l.take j))
theorem tL_zero (l : List Ex) : tL l 0 = [] := by unfold tL; rw [List.take_zero, pcsL]; rfl
theorem tL_one {l : List Ex} {x : Ex} (h : l[0]? = some x) : tL l 1 = tx (pcs x) := by
  unfold tL
  rw [List.take_add_one, h]
  rfl
theorem tL_more {l : List Ex} {j : Nat} {x : Ex} (h : l[j]? = some x) (hj : 0 < j) : tL l (j + 1) = tL l j ++ ([44] ++ tx (pcs x)) := by
  unfold tL
  have hl := (List.getElem?_eq_some_iff.1 h).1
  have hne : l.take j ≠ [] := fun e => by have := congrArg List.length e; rw [List.length_take, Nat.min_eq_left (Nat.le_of_lt hl), List.length_nil] at this; omega
  rw [List.take_add_one, h]
  show tx (pcsL (l.take j ++ [x])) = _
  rw [pcsL_snoc x hne, tx_app, tx_some]
  rfl
theorem tL_step {l : List Ex} {j : Nat} (hj : j < l.length) : (tL l j).length ≤ (tL l (j + 1)).length := by
  obtain ⟨x, hx⟩ := kid_some hj
  by_cases h0 : 0 < j
  · rw [tL_more hx h0]; simp
  · obtain rfl : j = 0 := by omega
    rw [tL_zero]; simp
theorem tL_le {l : List Ex} : ∀ {m j : Nat}, j + m ≤ l.length → (tL l j).length ≤ (tL l (j + m)).length
  | 0, j, _ => Nat.le_refl _
  | m + 1, j, h => Nat.le_trans (tL_le (m := m) (by omega)) (tL_step (by omega))
theorem tL_all (l : List Ex) : tL l l.length = tx (pcsL l) := by unfold tL; rw [List.take_length]
theorem tL_top {l : List Ex} {j : Nat} (h : j ≤ l.length) : (tL l j).length ≤ (tx (pcsL l)).length := by
  have := tL_le (l := l) (j := j) (m := l.length - j) (by omega)
  rw [show j + (l.length - j) = l.length by omega, tL_all] at this
  exact this
set_option maxHeartbeats 4000000 in
set_option maxRecDepth 100000 in
theorem list_any (kids : List Ex) (hk : ∀ x ∈ kids, KidC x) (A : Option Addr) (cp b : Nat) (l : List UInt8) (w : World) (h : KidsIn w (fun c => c < b) A 0 kids) (hkm : kids.length ≤ 1000) (hl : Bl b l w) (hO : Osg w) (hg : gTop < b) (hlen : l.length + (tx (pcsL kids)).length + 2 ≤ 1000000) :
    Calls Tryz.prog 74 #[prV b, .slice A kids.length cp] w fun x w' => x = .returned (.tuple #[]) ∧ ∃ l', Bl b l' w' ∧ Wr b w w' ∧ WT l ([40] ++ (tx (pcsL kids) ++ [41])) l' := by
  obtain ⟨n, hn⟩ : ∃ n, kids.length = n := ⟨_, rfl⟩
  rw [hn]
  obtain ⟨W, hW⟩ : ∃ W, w.alloc (.cells (prC b) tP) = W := ⟨_, rfl⟩
  have g1 : Wr b w W := by rw [← hW]; exact (Wr.refl b w).alloc hl.2 _
  have g2 : Bl b l W := by rw [← hW]; exact hl.alloc _
  have gp : Cel W w.heap.size tP (prC b) := by rw [← hW]; exact Cel.new w tP _ rfl
  have hbw := hl.lt
  have HX := Lib.hid (show ∀ W', Wr b W W' → W'.cell? ⟨w.heap.size, 0, none⟩ = some (.func (.func 25) #[.pointer (some ⟨b, 0, none⟩)] #[]) ∧ W'.cell? ⟨w.heap.size, 1, none⟩ = some (.func (.func 26) #[.pointer (some ⟨b, 0, none⟩)] #[]) from fun W' hW' => by
    have := hW'.cel (Nat.ne_of_gt hbw) (by decide) gp
    exact ⟨this.at_ 0, this.at_ 1⟩)
  have HPUT := Lib.hid (show ∀ (s : ByteArray) (m : List UInt8) W', Bl b m W' → m.length + s.size ≤ 1000000000 → Calls Tryz.prog 25 #[.pointer (some ⟨b, 0, none⟩), .string s] W' fun e w' => ∃ n, e = .returned (.tuple #[.int .i64 n, .nilIface]) ∧ Bl b (m ++ s.data.toList) w' ∧ Wr b W' w' from fun s m W' q1 q2 => put_any b m s W' q1 q2)
  have HW := Lib.hid g1
  have HL0 := Lib.hid g2
  have HKI := Lib.hid h
  have HKC := Lib.hid hk
  have HN := Lib.hid hn
  have HO := Lib.hid hO
  have HLEN := Lib.hid hlen
  have HG := Lib.hid hg
  have hn1k : n ≤ 1000 := by omega
  have HS1 := Lib.hid (show (ByteArray.mk #[40]).size = 1 ∧ (ByteArray.mk #[41]).size = 1 ∧ (ByteArray.mk #[44]).size = 1 from ⟨rfl, rfl, rfl⟩)
  obtain ⟨x0, x1⟩ := HX.out W (Wr.refl _ _)
  clear h hk hkm hl hO hg hlen hn g1 g2 gp
  go_enter Tryz.func74, Tryz.ntmps74
  go_upto_region 2 with (go_at_call 25; (with_reducible refine (HPUT.out ⟨#[40]⟩ l W HL0.out (by have := HLEN.out; have := HS1.out; omega)).mono ?_); rintro e' w1 ⟨n1, rfl, hl1, hr1⟩; have HL1 := Lib.hid hl1; have HR1 := Lib.hid hr1; clear hl1 hr1)
  clear hW x0 x1
  go_wp2
  go_loopw [11] (fun i wr => ∃ j : Nat, j ≤ n ∧ i = .int .i64 (j : Int) ∧ Hid (∃ l', Bl b l' wr ∧ Wr b W wr ∧ WT (l ++ [40]) (tL kids j) l')) (fun i _ => n + 1 - (intOf i).toNat)
  case atStart => exact ⟨0, Nat.zero_le _, rfl, Lib.hid ⟨_, HL1.out, HR1.out, by rw [tL_zero]; exact ⟨Nat.le_refl _, by simp, .inl (by simp)⟩⟩⟩
  case round =>
    obtain ⟨j, hj, rfl, HJ⟩ := hrel
    obtain ⟨lj, hlj, hrj, htj⟩ := HJ.out
    have HLJ := Lib.hid hlj
    have HRJ := Lib.hid hrj
    have HTJ := Lib.hid htj
    clear HJ hlj hrj htj
    by_cases hlt : j < n
    · obtain ⟨x, hx⟩ := kid_some (l := kids) (j := j) (by have := HN.out; omega)
      have hxin := kid_at HKI.out hx
      obtain ⟨k1, o1, vk1, vn1, vs1, nm1, ks1, A1, n1, c1, bb, z, ex, rfl, hbb, hn1, c0, c1', c2, c3, c4, c5, c6, hin⟩ := hxin
      have hwr := HW.out.trans HRJ.out
      have c0 := (hwr.1.cell hbb).trans c0
      have c1' := (hwr.1.cell hbb).trans c1'
      have c2 := (hwr.1.cell hbb).trans c2
      have c3 := (hwr.1.cell hbb).trans c3
      have c4 := (hwr.1.cell hbb).trans c4
      have c5 := (hwr.1.cell hbb).trans c5
      have c6 := (hwr.1.cell hbb).trans c6
      obtain ⟨W5, hW5⟩ : ∃ W5, wr.alloc (.cells #[.int .i64 k1, .int .i64 o1, .int .i64 vk1, .int .i64 vn1, .string (txt vs1), .string (txt nm1), .slice A1 n1 c1] tE) = W5 := ⟨_, rfl⟩
      have hr5 : Wr b wr W5 := by rw [← hW5]; exact (Wr.refl b wr).alloc HLJ.out.2 _
      have hl5 : Bl b lj W5 := by rw [← hW5]; exact HLJ.out.alloc _
      have hx5 : Cel W5 wr.heap.size tE #[.int .i64 k1, .int .i64 o1, .int .i64 vk1, .int .i64 vn1, .string (txt vs1), .string (txt nm1), .slice A1 n1 c1] := by rw [← hW5]; exact Cel.new wr tE _ rfl
      have hbr := HLJ.out.lt
      have HY := Lib.hid (show ∀ W', Wr b W5 W' → (W'.cell? ⟨w.heap.size, 0, none⟩ = some (.func (.func 25) #[.pointer (some ⟨b, 0, none⟩)] #[]) ∧ W'.cell? ⟨w.heap.size, 1, none⟩ = some (.func (.func 26) #[.pointer (some ⟨b, 0, none⟩)] #[])) ∧ (W'.cell? ⟨wr.heap.size, 0, none⟩ = some (.int .i64 k1) ∧ W'.cell? ⟨wr.heap.size, 1, none⟩ = some (.int .i64 o1) ∧ W'.cell? ⟨wr.heap.size, 2, none⟩ = some (.int .i64 vk1) ∧ W'.cell? ⟨wr.heap.size, 3, none⟩ = some (.int .i64 vn1) ∧ W'.cell? ⟨wr.heap.size, 4, none⟩ = some (.string (txt vs1)) ∧ W'.cell? ⟨wr.heap.size, 5, none⟩ = some (.string (txt nm1)) ∧ W'.cell? ⟨wr.heap.size, 6, none⟩ = some (.slice A1 n1 c1)) from fun W' hW' => by
        have y := hW'.cel (Nat.ne_of_gt hbr) (by decide) hx5
        exact ⟨HX.out W' (HRJ.out.trans (hr5.trans hW')), y.at_ 0, y.at_ 1, y.at_ 2, y.at_ 3, y.at_ 4, y.at_ 5, y.at_ 6⟩)
      have HKD := Lib.hid (show ∀ (l' : List UInt8) W', Bl b l' W' → Wr b W5 W' → l'.length + (tx (pcs x)).length ≤ 1000000 → Calls Tryz.prog 27 #[prV b, exV k1 o1 vk1 vn1 (txt vs1) (txt nm1) A1 n1 c1, .int .i64 1] W' fun x' w' => x' = .returned (.tuple #[]) ∧ ∃ l2, Bl b l2 w' ∧ Wr b W' w' ∧ WT l' (tx (pcs x)) l2 from fun l' W' q1 q2 q3 => by
        have hw' := hwr.trans (hr5.trans q2)
        have := HKC.out x (kid_mem hx) _ b 1 l' W' (hin.to (fun _ h => h) (fun p hp => hw'.1.cell hp)) q1 (HO.out.below hw'.1 HG.out) HG.out (by rw [kid_one]; exact q3)
        rw [kid_one] at this
        exact this)
      have HLK := Lib.hid (show lj.length + 1 + (tx (pcs x)).length ≤ 1000000 from by
        have h1 := HTJ.out.len
        have h2 := tL_top (l := kids) (j := j + 1) (by have := HN.out; omega)
        have h3 := HLEN.out
        rw [List.length_append, List.length_singleton] at h1
        by_cases h0 : 0 < j
        · rw [tL_more hx h0] at h2
          simp only [List.length_append, List.length_singleton] at h2
          omega
        · obtain rfl : j = 0 := by omega
          rw [tL_one hx] at h2
          rw [tL_zero] at h1
          simp at h1
          omega)
      have HXX := Lib.hid hx
      have HR5 := Lib.hid (HRJ.out.trans hr5)
      have HL5 := Lib.hid hl5
      obtain ⟨⟨x0, x1⟩, y0, y1, y2, y3, y4, y5, y6⟩ := HY.out W5 (Wr.refl _ _)
      have tl : decide ((j : Int) < (n : Int)) = true := decide_eq_true (by omega)
      clear hx hin hn1 hwr hr5 hl5 hx5 ex hbb
      by_cases h0 : 0 < j
      · have t0 : decide (0 < (j : Int)) = true := decide_eq_true (by omega)
        go_wp2_with (first
          | (go_at_call 25; (with_reducible refine (HPUT.out ⟨#[44]⟩ lj W5 HL5.out (by have := HLK.out; have := HS1.out; omega)).mono ?_); rintro e' w2 ⟨n2, rfl, hl2, hr2⟩; have HL2 := Lib.hid hl2; have HR2 := Lib.hid hr2; obtain ⟨⟨x0, x1⟩, y0, y1, y2, y3, y4, y5, y6⟩ := HY.out w2 hr2; clear hl2 hr2)
          | (go_at_call 27; (with_reducible refine (HKD.out (lj ++ [44]) w2 HL2.out HR2.out (by have := HLK.out; simp only [List.length_append, List.length_cons, List.length_nil]; omega)).mono ?_); rintro e' w3 ⟨rfl, l3, hl3, hr3, ht3⟩; have HL3 := Lib.hid hl3; have HT3 := Lib.hid ht3; have HR3 := Lib.hid (HR5.out.trans (HR2.out.trans hr3)); clear hl3 hr3 ht3))
        go_roundw
        case rel => exact ⟨j + 1, by omega, by go_num, Lib.hid ⟨_, HL3.out, HR3.out, by rw [tL_more HXX.out h0]; exact HTJ.out.trans ((WT.lit lj [44]).trans HT3.out)⟩⟩
        case measure => simp [intOf]; omega
      · obtain rfl : j = 0 := by omega
        simp only [Nat.zero_mul, Nat.add_zero] at c0 c1' c2 c3 c4 c5 c6
        go_wp2_with (first
          | (go_at_call 27; (with_reducible refine (HKD.out lj W5 HL5.out (Wr.refl _ _) (by have := HLK.out; omega)).mono ?_); rintro e' w3 ⟨rfl, l3, hl3, hr3, ht3⟩; have HL3 := Lib.hid hl3; have HT3 := Lib.hid ht3; have HR3 := Lib.hid (HR5.out.trans hr3); clear hl3 hr3 ht3))
        go_roundw
        case rel => exact ⟨0 + 1, by omega, by go_num, Lib.hid ⟨_, HL3.out, HR3.out, by
          have ht := HTJ.out
          rw [tL_zero] at ht
          have := ht.trans HT3.out
          rw [List.nil_append] at this
          rw [tL_one HXX.out]
          exact this⟩⟩
        case measure => simp [intOf]
    · have tl : decide ((j : Int) < (n : Int)) = false := decide_eq_false (by omega)
      obtain rfl : j = n := by omega
      obtain ⟨x0, x1⟩ := HX.out wr HRJ.out
      have HTT := Lib.hid (show WT (l ++ [40]) (tx (pcsL kids)) lj from by
        have := HTJ.out
        rw [← HN.out, tL_all] at this
        exact this)
      go_wp2_with (go_at_call 25; (with_reducible refine (HPUT.out ⟨#[41]⟩ lj wr HLJ.out (by have := HTT.out.len; have := HLEN.out; have := HS1.out; rw [List.length_append, List.length_singleton] at *; omega)).mono ?_); rintro e' w4 ⟨n4, rfl, hl4, hr4⟩; have HL4 := Lib.hid hl4; have HR4 := Lib.hid (HRJ.out.trans hr4); clear hl4 hr4)
      go_end0
      exact ⟨rfl, _, HL4.out, HW.out.trans HR4.out, (WT.lit l [40]).trans (HTT.out.trans (WT.lit lj [41]))⟩
end Go.Proofs.YtgbaolafedkbdaaGreatDoor.Ep

import Derived.Test.YtlkmhdbmcfblkaaGreatDoorValQuots
import Derived.Test.YtlkmhdbmcfblkaaGreatDoorNumReads
/- What value.Read answers. -/
namespace Go.Proofs.YtlkmhdbmcfblkaaGreatDoor.Val
open Go.RowKit Go.Proofs.YtlkmhdbmcfblkaaGreatDoor.Mem
set_option linter.unusedVariables false

theorem repK_le : ∀ (k : Nat) (l : List UInt8), (Lib.replaceK [39, 39] [39] k l).length ≤ l.length
  | 0, l => Nat.le_refl _
  | k + 1, l => by
    rcases Lib.index_spec l [39, 39] with ⟨h, _⟩ | ⟨i, h, _, _, _⟩
    · unfold Lib.replaceK; rw [h]; exact Nat.le_refl _
    · have hr := Lib.index_room l [39, 39] (by rw [h]; omega)
      rw [h] at hr
      have h2 : (([39, 39] : List UInt8).length : Int) = 2 := rfl
      rw [h2] at hr
      have hk := repK_le k (l.drop (i + 2))
      rw [Lib.replaceK_hit _ _ _ _ _ h]
      have h3 : ([39, 39] : List UInt8).length = 2 := rfl
      rw [h3, List.length_append, List.length_append, List.length_take]
      simp only [List.length_drop, List.length_cons, List.length_nil] at hk ⊢
      omega
theorem un_le (l : List UInt8) : (un l).length ≤ l.length := by
  unfold un Lib.replaceAll Lib.replace
  split
  · exact Nat.le_refl _
  · exact repK_le _ _
theorem rep_any (t : ByteArray) (l : List UInt8) (hl : t.data.toList = l) (m : Int) (w : World) (hs : t.size < 4294967281) (hm : w.cell? ⟨2, 0, none⟩ = some (.int .i64 m)) :
    Calls Tryz.prog 243 #[.string t, .string ⟨#[39, 39]⟩, .string ⟨#[39]⟩] w fun e w' => e = .returned (.string ⟨(un l).toArray⟩) ∧ Below w.heap.size w w' := by
  have hc := Lib.count_le t.data.toList [39, 39]
  have hsz : t.data.toList.length = t.size := by rw [Array.length_toList]; rfl
  have h1 : (⟨#[39]⟩ : ByteArray).size = 1 := rfl
  have hb : Lib.countB t ⟨#[39, 39]⟩ = Lib.count t.data.toList [39, 39] := rfl
  exact (Tryz.strings_ReplaceAll t ⟨#[39, 39]⟩ ⟨#[39]⟩ m w hs hm (show 1 ≤ 2 by decide) (by rw [hb, h1]; omega)).mono fun _ _ ⟨h1, h2⟩ => ⟨by rw [h1, hl]; rfl, h2⟩

theorem rdT_short {l : List UInt8} (h : l.length < 2) : rdT l = bad 12 := by unfold rdT; rw [if_pos h]
theorem rdT_no {l u : List UInt8} (h : ¬ l.length < 2) (hu : un (inner l) = u) (hq : ¬ quo u = l) : rdT l = bad 12 := by unfold rdT; rw [if_neg h, hu, if_neg (fun e => hq e.1)]
theorem rdT_bad {l u : List UInt8} (h : ¬ l.length < 2) (hu : un (inner l) = u) (hp : pl u = false) : rdT l = bad 12 := by unfold rdT; rw [if_neg h, hu, if_neg (fun e => by rw [hp] at e; exact absurd e.2 (by decide))]
theorem rdT_long {l u : List UInt8} (h : ¬ l.length < 2) (hu : un (inner l) = u) (hq : quo u = l) (hp : pl u = true) (hl : 32 < u.length) : rdT l = bad 3 := by unfold rdT; rw [if_neg h, hu, if_pos ⟨hq, hp⟩, if_pos hl]
theorem rdT_yes {l u : List UInt8} (h : ¬ l.length < 2) (hu : un (inner l) = u) (hq : quo u = l) (hp : pl u = true) (hl : ¬ 32 < u.length) : rdT l = ⟨3, 0, u, 0⟩ := by unfold rdT; rw [if_neg h, hu, if_pos ⟨hq, hp⟩, if_neg hl]
theorem inner_extract (s : ByteArray) (h : 2 ≤ s.size) : (s.extract 1 (s.size - 1)).data.toList = inner s.data.toList := by
  rw [Lib.extract_data]
  unfold inner
  have hsz : s.data.toList.length = s.size := by rw [Array.length_toList]; rfl
  rw [hsz, show s.size - 1 - 1 = s.size - 2 by omega]

/-- The cells of the result, behind calls. -/
theorem made_cells {w w' : World} {a b c : Value} {t : TypeId} (h : Below (w.alloc (.cells #[a, b, c] t)).heap.size (w.alloc (.cells #[a, b, c] t)) w') :
    (w'.cell? ⟨w.heap.size, 0, none⟩ = some a ∧ w'.cell? ⟨w.heap.size, 1, none⟩ = some b ∧ w'.cell? ⟨w.heap.size, 2, none⟩ = some c) ∧
    w'.frozen? ⟨w.heap.size, 0, none⟩ = false ∧ w'.frozen? ⟨w.heap.size, 1, none⟩ = false ∧ w'.frozen? ⟨w.heap.size, 2, none⟩ = false := by
  have h0 : w.heap.size < (w.alloc (.cells #[a, b, c] t)).heap.size := by simp
  have hh := (h.block _ h0).trans (heap_alloc_new w (.cells #[a, b, c] t))
  refine ⟨⟨?_, ?_, ?_⟩, ?_, ?_, ?_⟩ <;> simp [World.cell?, World.frozen?, hh]
set_option maxHeartbeats 1000000 in
theorem readText_any (s : ByteArray) (m : Int) (w : World) (hs : s.size < 4294967281) (hm : w.cell? ⟨2, 0, none⟩ = some (.int .i64 m)) :
    Calls Tryz.prog 234 #[.string s] w fun e w' => e = .returned (rdT s.data.toList).val ∧ Below w.heap.size w w' := by
  have HM := Lib.hid (held_alloc hm (.cells #[.int .i64 0, .int .i64 0, .string ByteArray.empty] 29))
  have hsz : s.data.toList.length = s.size := by rw [Array.length_toList]; rfl
  clear hm
  by_cases h2 : s.size < 2
  · have t : decide ((s.size : Int) < 2) = true := decide_eq_true (by omega)
    have H := Lib.hid (rdT_short (l := s.data.toList) (by omega))
    clear h2 hsz
    go_enter Tryz.func234, Tryz.ntmps234
    go_wp2
    (try simp only [Exit.inBlock, Exit.then])
    refine bodyPost_ret (v := (rdT s.data.toList).val) ?_ rfl ?_
    · rw [results_cell_tmp rfl, H.out]
      go_simp
      rfl
    exact ⟨rfl, al (Below.refl _ _) _⟩
  · have t : decide ((s.size : Int) < 2) = false := decide_eq_false (by omega)
    have b1 : (1 : Int) ≤ (s.size : Int) - 1 := by omega
    have b2 : (s.size : Int) - 1 ≤ (s.size : Int) := by omega
    obtain ⟨u, hu⟩ : ∃ u, un (inner s.data.toList) = u := ⟨_, rfl⟩
    have hul : u.length ≤ s.size := by
      rw [← hu]
      have h1 := un_le (inner s.data.toList)
      have h3 : (inner s.data.toList).length ≤ s.data.toList.length := by unfold inner; rw [List.length_take, List.length_drop]; omega
      omega
    have HX := Lib.hid (inner_extract s (by omega))
    have HU := Lib.hid hu
    have HS2 := Lib.hid (show (s.extract 1 (s.size - 1)).size < 4294967281 by rw [ByteArray.size_extract]; omega)
    have HS3 := Lib.hid (show (⟨u.toArray⟩ : ByteArray).size < 4294967281 by rw [bytes_size]; omega)
    have HL := Lib.hid (show (⟨u.toArray⟩ : ByteArray).size ≤ maxLen by rw [bytes_size]; unfold maxLen; omega)
    by_cases hq : quo u = s.data.toList
    · have t4 : quo u = s.toList := by rw [Lib.toList_data]; exact hq
      by_cases hp : pl u = true
      · by_cases hlen : 32 < u.length
        · have t3 : decide (32 < (u.length : Int)) = true := decide_eq_true (by omega)
          have H := Lib.hid (rdT_long (by omega) hu hq hp hlen)
          clear hu hq hlen hul hsz h2
          go_enter Tryz.func234, Tryz.ntmps234
          go_wp2_with (first | (go_at_call 243; refine (rep_any _ _ HX.out m _ HS2.out HM.out).mono ?_; rw [HU.out]; rintro e w1 ⟨rfl, hb1⟩; have HB1 := Lib.hid (on (al (Below.refl w.heap.size w) _) hb1); have HM1 := Lib.hid (held_below HM.out hb1); have HC1 := Lib.hid hb1; clear hb1) | (go_at_call 206; refine (quoted_any _ m _ HS3.out HM1.out).mono ?_; rintro e w2 ⟨rfl, hb2⟩; have HB2 := Lib.hid (on HB1.out hb2); obtain ⟨⟨c0, c1, c2⟩, f0, f1, f2⟩ := made_cells (on HC1.out hb2); clear hb2) | (go_at_call 215; (with_reducible refine (plain_any _ HL.out _).mono ?_); rintro e w' ⟨rfl, rfl⟩))
          (try simp only [Exit.inBlock, Exit.then])
          refine bodyPost_ret (v := (rdT s.data.toList).val) ?_ rfl ?_
          · rw [results_cell_tmp rfl, H.out]
            go_simp
            rfl
          exact ⟨rfl, ((HB2.out.setCell (Nat.le_refl _) _).setCell (Nat.le_refl _) _).setCell (Nat.le_refl _) _⟩
        · have t3 : decide (32 < (u.length : Int)) = false := decide_eq_false (by omega)
          have H := Lib.hid (rdT_yes (by omega) hu hq hp hlen)
          clear hu hq hlen hul hsz h2
          go_enter Tryz.func234, Tryz.ntmps234
          go_wp2_with (first | (go_at_call 243; refine (rep_any _ _ HX.out m _ HS2.out HM.out).mono ?_; rw [HU.out]; rintro e w1 ⟨rfl, hb1⟩; have HB1 := Lib.hid (on (al (Below.refl w.heap.size w) _) hb1); have HM1 := Lib.hid (held_below HM.out hb1); have HC1 := Lib.hid hb1; clear hb1) | (go_at_call 206; refine (quoted_any _ m _ HS3.out HM1.out).mono ?_; rintro e w2 ⟨rfl, hb2⟩; have HB2 := Lib.hid (on HB1.out hb2); obtain ⟨⟨c0, c1, c2⟩, f0, f1, f2⟩ := made_cells (on HC1.out hb2); clear hb2) | (go_at_call 215; (with_reducible refine (plain_any _ HL.out _).mono ?_); rintro e w' ⟨rfl, rfl⟩))
          (try simp only [Exit.inBlock, Exit.then])
          refine bodyPost_ret (v := (rdT s.data.toList).val) ?_ rfl ?_
          · rw [results_cell_tmp rfl, H.out]
            go_simp
            rfl
          exact ⟨rfl, ((HB2.out.setCell (Nat.le_refl _) _).setCell (Nat.le_refl _) _).setCell (Nat.le_refl _) _⟩
      · have hp' : pl u = false := by simpa using hp
        have H := Lib.hid (rdT_bad (by omega) hu hp')
        clear hu hq hp hul hsz h2
        go_enter Tryz.func234, Tryz.ntmps234
        go_wp2_with (first | (go_at_call 243; refine (rep_any _ _ HX.out m _ HS2.out HM.out).mono ?_; rw [HU.out]; rintro e w1 ⟨rfl, hb1⟩; have HB1 := Lib.hid (on (al (Below.refl w.heap.size w) _) hb1); have HM1 := Lib.hid (held_below HM.out hb1); have HC1 := Lib.hid hb1; clear hb1) | (go_at_call 206; refine (quoted_any _ m _ HS3.out HM1.out).mono ?_; rintro e w2 ⟨rfl, hb2⟩; have HB2 := Lib.hid (on HB1.out hb2); obtain ⟨⟨c0, c1, c2⟩, f0, f1, f2⟩ := made_cells (on HC1.out hb2); clear hb2) | (go_at_call 215; (with_reducible refine (plain_any _ HL.out _).mono ?_); rintro e w' ⟨rfl, rfl⟩))
        (try simp only [Exit.inBlock, Exit.then])
        refine bodyPost_ret (v := (rdT s.data.toList).val) ?_ rfl ?_
        · rw [results_cell_tmp rfl, H.out]
          go_simp
          rfl
        exact ⟨rfl, ((HB2.out.setCell (Nat.le_refl _) _).setCell (Nat.le_refl _) _).setCell (Nat.le_refl _) _⟩
    · have t2 : ((⟨(quo u).toArray⟩ : ByteArray).toList == s.toList) = false := by
        rw [Lib.toList_data, Lib.toList_data]; simpa using hq
      have t2' : ((⟨(quo u).toArray⟩ : ByteArray).toList != s.toList) = true := by rw [bne, t2]; rfl
      have t4 : ¬ quo u = s.toList := by rw [Lib.toList_data]; exact hq
      have t5 : (quo u == s.toList) = false := by simpa using t4
      have t6 : (quo u != s.toList) = true := by simpa using t4
      have H := Lib.hid (rdT_no (by omega) hu hq)
      clear hu hq hul hsz h2
      go_enter Tryz.func234, Tryz.ntmps234
      go_wp2_with (first | (go_at_call 243; refine (rep_any _ _ HX.out m _ HS2.out HM.out).mono ?_; rw [HU.out]; rintro e w1 ⟨rfl, hb1⟩; have HB1 := Lib.hid (on (al (Below.refl w.heap.size w) _) hb1); have HM1 := Lib.hid (held_below HM.out hb1); have HC1 := Lib.hid hb1; clear hb1) | (go_at_call 206; refine (quoted_any _ m _ HS3.out HM1.out).mono ?_; rintro e w2 ⟨rfl, hb2⟩; have HB2 := Lib.hid (on HB1.out hb2); obtain ⟨⟨c0, c1, c2⟩, f0, f1, f2⟩ := made_cells (on HC1.out hb2); clear hb2) | (go_at_call 215; (with_reducible refine (plain_any _ HL.out _).mono ?_); rintro e w' ⟨rfl, rfl⟩))
      (try simp only [Exit.inBlock, Exit.then])
      refine bodyPost_ret (v := (rdT s.data.toList).val) ?_ rfl ?_
      · rw [results_cell_tmp rfl, H.out]
        go_simp
        rfl
      exact ⟨rfl, ((HB2.out.setCell (Nat.le_refl _) _).setCell (Nat.le_refl _) _).setCell (Nat.le_refl _) _⟩
end Go.Proofs.YtlkmhdbmcfblkaaGreatDoor.Val
/- What value.Read answers: the whole. -/
namespace Go.Proofs.YtlkmhdbmcfblkaaGreatDoor.Val
open Go.RowKit Go.Proofs.YtlkmhdbmcfblkaaGreatDoor.Mem
set_option linter.unusedVariables false

theorem rd_0 {l : List UInt8} (h : l = wNull) : rd l = ⟨0, 0, [], 0⟩ := by unfold rd; rw [if_pos h]
theorem rd_q {l : List UInt8} (h1 : ¬ l = wNull) (h2 : ¬ l = wTrue) (h3 : ¬ l = wFalse) (h4 : l.head? = some 39) : rd l = rdT l := by unfold rd; rw [if_neg h1, if_neg h2, if_neg h3, if_pos h4]
theorem rd_n {l : List UInt8} (h1 : ¬ l = wNull) (h2 : ¬ l = wTrue) (h3 : ¬ l = wFalse) (h4 : ¬ l.head? = some 39) : rd l = rdN (Num.readV l) (Num.readE l) := by unfold rd; rw [if_neg h1, if_neg h2, if_neg h3, if_neg h4]
theorem hasp_any (s : ByteArray) (b : Bool) (h : decide (s.data.toList.head? = some 39) = b) (w : World) :
    Calls Tryz.prog 233 #[.string s, .string ⟨#[39]⟩] w fun e w' => e = .returned (.bool b) ∧ w = w' :=
  (Tryz.strings_HasPrefix s ⟨#[39]⟩ w).mono fun _ _ ⟨h1, h2⟩ => ⟨by
    rw [h1, ← h]
    have e : Lib.hasPrefix s.data.toList [39] = decide (s.data.toList.head? = some 39) := by
      unfold Lib.hasPrefix
      cases s.data.toList with
      | nil => rfl
      | cons c r =>
        by_cases hc : c = 39
        · subst hc; simp [List.isPrefixOf]
        · have : ((39 : UInt8) == c) = false := by simpa using fun e => hc e.symm
          simp [List.isPrefixOf, this, hc]
    exact congrArg (fun b => Ending.returned (Value.bool b)) e, h2.symm⟩
theorem readText_got (s : ByteArray) (k n : Int) (t : List UInt8) (e : Int) (h : rdT s.data.toList = ⟨k, n, t, e⟩) (m : Int) (w : World) (hs : s.size < 4294967281) (hm : w.cell? ⟨2, 0, none⟩ = some (.int .i64 m)) :
    Calls Tryz.prog 234 #[.string s] w fun e' w' => e' = .returned (.tuple #[.agg #[.int .i64 k, .int .i64 n, .string ⟨t.toArray⟩], .int .i64 e]) ∧ Below w.heap.size w w' :=
  (readText_any s m w hs hm).mono fun _ _ ⟨h1, h2⟩ => ⟨by rw [h1, h]; rfl, h2⟩
theorem whole_got (a b : Int) (k n : Int) (t : List UInt8) (e : Int) (h : rdN a b = ⟨k, n, t, e⟩) (w : World) :
    Calls Tryz.prog 235 #[.int .i64 a, .int .i64 b] w fun e' w' => e' = .returned (.tuple #[.agg #[.int .i64 k, .int .i64 n, .string ⟨t.toArray⟩], .int .i64 e]) ∧ Below w.heap.size w w' :=
  (whole_any a b w).mono fun _ _ ⟨h1, h2⟩ => ⟨by rw [h1, h]; rfl, h2⟩
theorem is_word (s : ByteArray) (l : List UInt8) : s = ⟨l.toArray⟩ ∨ (¬ s.data.toList = l ∧ (s.toList == l) = false) := by
  by_cases h : s.data.toList = l
  · left; apply WideShapes.bytes_inj; exact h
  · right; refine ⟨h, ?_⟩
    rw [Lib.toList_data]; simpa using h

set_option maxHeartbeats 1000000 in
theorem read_any (s : ByteArray) (m : Int) (w : World) (hs : s.size < 4294967281) (hm : w.cell? ⟨2, 0, none⟩ = some (.int .i64 m)) :
    Calls Tryz.prog 224 #[.string s] w fun e w' => e = .returned (rd s.data.toList).val ∧ Below w.heap.size w w' := by
  have HM := Lib.hid (held_alloc hm (.cells #[.int .i64 0, .int .i64 0, .string ByteArray.empty] 29))
  clear hm
  rcases is_word s wNull with rfl | ⟨h1, t1⟩
  · go_enter Tryz.func224, Tryz.ntmps224
    go_wp2
    (try simp only [Exit.inBlock, Exit.then])
    refine bodyPost_ret (v := (rd wNull).val) ?_ rfl ?_
    · rw [results_cell_tmp rfl]
      go_simp
      rfl
    exact ⟨rfl, al (Below.refl _ _) _⟩
  rcases is_word s wTrue with rfl | ⟨h2, t2⟩
  · clear h1 t1
    go_enter Tryz.func224, Tryz.ntmps224
    go_wp2
    (try simp only [Exit.inBlock, Exit.then])
    refine bodyPost_ret (v := (rd wTrue).val) ?_ rfl ?_
    · rw [results_cell_tmp rfl]
      go_simp
      rfl
    exact ⟨rfl, al (Below.refl _ _) _⟩
  rcases is_word s wFalse with rfl | ⟨h3, t3⟩
  · clear h1 t1 h2 t2
    go_enter Tryz.func224, Tryz.ntmps224
    go_wp2
    (try simp only [Exit.inBlock, Exit.then])
    refine bodyPost_ret (v := (rd wFalse).val) ?_ rfl ?_
    · rw [results_cell_tmp rfl]
      go_simp
      rfl
    exact ⟨rfl, al (Below.refl _ _) _⟩
  have r1 : (s.toList == [78, 85, 76, 76]) = false := t1
  have r2 : (s.toList == [84, 82, 85, 69]) = false := t2
  have r3 : (s.toList == [70, 65, 76, 83, 69]) = false := t3
  by_cases h4 : s.data.toList.head? = some 39
  · have HP := Lib.hid (decide_eq_true h4)
    obtain ⟨g, hg⟩ : ∃ g, rdT s.data.toList = g := ⟨_, rfl⟩
    have H := Lib.hid ((rd_q h1 h2 h3 h4).trans hg)
    have HG := Lib.hid hg
    clear h1 t1 h2 t2 h3 t3 h4 hg
    obtain ⟨k1, n1, s1, e1⟩ := g
    go_enter Tryz.func224, Tryz.ntmps224
    go_wp2_with (first | (go_at_call 233; refine (hasp_any _ _ HP.out _).mono ?_; rintro e w' ⟨rfl, rfl⟩) | (go_at_call 234; refine (readText_got _ _ _ _ _ HG.out m _ hs HM.out).mono ?_; rintro e w1 ⟨rfl, hb1⟩; have HB1 := Lib.hid (on (al (Below.refl w.heap.size w) _) hb1); obtain ⟨⟨c0, c1, c2⟩, f0, f1, f2⟩ := made_cells hb1; clear hb1))
    (try simp only [Exit.inBlock, Exit.then])
    refine bodyPost_ret (v := (rd s.data.toList).val) ?_ rfl ?_
    · rw [results_cell_tmp rfl, H.out]
      go_simp
      rfl
    exact ⟨rfl, ((HB1.out.setCell (Nat.le_refl _) _).setCell (Nat.le_refl _) _).setCell (Nat.le_refl _) _⟩
  · have HP := Lib.hid (decide_eq_false h4)
    obtain ⟨g, hg⟩ : ∃ g, rdN (Num.readV s.data.toList) (Num.readE s.data.toList) = g := ⟨_, rfl⟩
    have H := Lib.hid ((rd_n h1 h2 h3 h4).trans hg)
    have HG := Lib.hid hg
    have HL := Lib.hid (show s.size ≤ maxLen by unfold maxLen; omega)
    clear h1 t1 h2 t2 h3 t3 h4 hg
    obtain ⟨k1, n1, s1, e1⟩ := g
    go_enter Tryz.func224, Tryz.ntmps224
    go_wp2_with (first | (go_at_call 233; refine (hasp_any _ _ HP.out _).mono ?_; rintro e w' ⟨rfl, rfl⟩) | (go_at_call 236; (with_reducible refine (Num.read_any s HL.out _).mono ?_); rintro e w' ⟨rfl, rfl⟩) | (go_at_call 235; refine (whole_got _ _ _ _ _ _ HG.out _).mono ?_; rintro e w1 ⟨rfl, hb1⟩; have HB1 := Lib.hid (on (al (Below.refl w.heap.size w) _) hb1); obtain ⟨⟨c0, c1, c2⟩, f0, f1, f2⟩ := made_cells hb1; clear hb1))
    (try simp only [Exit.inBlock, Exit.then])
    refine bodyPost_ret (v := (rd s.data.toList).val) ?_ rfl ?_
    · rw [results_cell_tmp rfl, H.out]
      go_simp
      rfl
    exact ⟨rfl, ((HB1.out.setCell (Nat.le_refl _) _).setCell (Nat.le_refl _) _).setCell (Nat.le_refl _) _⟩
end Go.Proofs.YtlkmhdbmcfblkaaGreatDoor.Val

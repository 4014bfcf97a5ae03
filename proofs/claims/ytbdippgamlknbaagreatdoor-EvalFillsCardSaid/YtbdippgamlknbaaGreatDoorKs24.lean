/- The document's own way to tell a token's kind: is a text a quoted one, is it a sign? What the document's Right answers. How high a tree is: the program's way, which hands its parts to a function, and the docume -/
import Derived.Test.YtbdippgamlknbaaGreatDoorKs23
import Derived.Test.YtbdippgamlknbaaGreatDoorKs19
import Derived.Test.YtbdippgamlknbaaGreatDoorKs18
import Derived.Lib.MinMax
import Derived.Test.YtbdippgamlknbaaGreatDoorKs06
namespace Go.Proofs.YtbdippgamlknbaaGreatDoor.Lx
open Go.RowKit Go.Proofs.YtbdippgamlknbaaGreatDoor.Mem Go.Proofs.YtbdippgamlknbaaGreatDoor.Right
set_option linter.unusedVariables false
theorem plain_same : okB = plainB := by
  funext c
  exact byAll (p := okB) (q := plainB) (by decide +kernel) c
/-- The middle of a text, byte by byte. -/
theorem mid_at {l : List UInt8} {k : Nat} {c : UInt8} (hk : 1 ≤ k) (h : k + 1 < l.length) (hc : l[k]? = some c) : ((l.drop 1).dropLast).drop (k - 1) = c :: ((l.drop 1).dropLast).drop k := by
  have hl : ((l.drop 1).dropLast).length = l.length - 2 := by rw [List.length_dropLast, List.length_drop]; omega
  have hlt : k - 1 < ((l.drop 1).dropLast).length := by omega
  rw [List.drop_eq_getElem_cons hlt, show k - 1 + 1 = k by omega]
  congr 1
  have : ((l.drop 1).dropLast)[k - 1]? = some c := by
    rw [List.getElem?_dropLast, if_pos (by rw [List.length_drop]; omega), List.getElem?_drop, show 1 + (k - 1) = k by omega]
    exact hc
  rw [List.getElem?_eq_getElem hlt] at this
  exact Option.some.inj this
theorem quotedR_no {l : List UInt8} (h : l.length < 2 ∨ l.head? ≠ some 39 ∨ l.getLast? ≠ some 39 ∨ pl l = false) : quotedR l = false := by
  match l with
  | [] => rfl
  | c :: t =>
    unfold quotedR
    rcases h with h | h | h | h
    · have : t = [] := List.length_eq_zero_iff.1 (by simp at h; omega)
      subst this; simp
    · have : c ≠ 39 := fun e => h (by rw [e]; rfl)
      simp [this]
    · by_cases ht : t = []
      · subst ht; simp
      · have : t.getLast? ≠ some 39 := fun e => h (by rw [List.getLast?_cons, e]; rfl)
        simp [this]
    · unfold pl at h
      rw [List.all_cons, plain_same] at h
      by_cases hc : c = 39
      · subst hc
        rw [show plainB 39 = true by decide, Bool.true_and] at h
        simp [h]
      · simp [hc]
theorem quotedR_yes {l : List UInt8} (h2 : 2 ≤ l.length) (h : l.head? = some 39) (hl : l.getLast? = some 39) (hp : pl l = true) : quotedR l = okM ((l.drop 1).dropLast) 0 := by
  match l with
  | [] => simp at h2
  | c :: t =>
    have hc : c = 39 := by simpa using h
    have ht : t ≠ [] := fun e => by subst e; simp at h2
    obtain ⟨d, r, rfl⟩ := List.exists_cons_of_ne_nil ht
    rw [List.getLast?_cons_cons] at hl
    unfold pl at hp
    rw [List.all_cons, plain_same, Bool.and_eq_true] at hp
    unfold quotedR
    simp [hc, hl, hp.2]
set_option maxHeartbeats 4000000 in
theorem refQuoted_any (s : ByteArray) (hs : s.size ≤ 1000000) (w : World) :
    Calls Tryz.prog 231 #[.string s] w fun e w' => e = .returned (.bool (quotedR s.data.toList)) ∧ w = w' := by
  have hll : s.data.toList.length = s.size := by rw [Array.length_toList]; rfl
  by_cases h2 : s.size < 2
  · have t2 : decide ((s.size : Int) < 2) = true := decide_eq_true (by omega)
    have H := Lib.hid (quotedR_no (l := s.data.toList) (.inl (by omega)))
    clear hll
    go_enter Tryz.func231, Tryz.ntmps231
    go_wp2
    go_ret
    exact ⟨rb H.out.symm, rfl⟩
  have t2 : decide ((s.size : Int) < 2) = false := decide_eq_false (by omega)
  have hp0 : 0 < s.size := by omega
  have hb0 := byte_at s 0 hp0
  have hhd : s.data.toList.head? = some s[0] := by rw [List.head?_eq_getElem?]; exact hb0
  obtain ⟨c, hc⟩ : ∃ c, s[0] = c := ⟨_, rfl⟩
  by_cases h39 : ¬ c = 39
  · have tc : ((c.toNat : Int) != 39) = true := bne_yes (fun e => h39 (byte_is' (k := 39) e))
    have H := Lib.hid (quotedR_no (l := s.data.toList) (.inr (.inl (by rw [hhd, hc]; exact fun e => h39 (by injection e)))))
    clear hll hb0 hhd
    go_enter Tryz.func231, Tryz.ntmps231
    go_wp2
    go_ret
    exact ⟨rb H.out.symm, rfl⟩
  have h39 := Classical.not_not.1 h39
  have tc : ((c.toNat : Int) != 39) = false := bne_no (by rw [h39]; rfl)
  obtain ⟨m, hm⟩ : ∃ m, s.size = m + 1 := ⟨s.size - 1, by omega⟩
  have hml : m < s.size := by omega
  have hmi : (s.size : Int) - 1 = (m : Int) := by omega
  obtain ⟨d, hd⟩ : ∃ d, s[m] = d := ⟨_, rfl⟩
  have hlast : s.data.toList.getLast? = some d := by
    rw [List.getLast?_eq_getElem?, hll, show s.size - 1 = m by omega, byte_at s m hml, hd]
  by_cases hd39 : ¬ d = 39
  · have td : ((d.toNat : Int) != 39) = true := bne_yes (fun e => hd39 (byte_is' (k := 39) e))
    have H := Lib.hid (quotedR_no (l := s.data.toList) (.inr (.inr (.inl (by rw [hlast]; exact fun e => hd39 (by injection e))))))
    clear hll hb0 hhd hlast
    go_enter Tryz.func231, Tryz.ntmps231
    go_wp2
    go_ret
    exact ⟨rb H.out.symm, rfl⟩
  have hd39 := Classical.not_not.1 hd39
  have td : ((d.toNat : Int) != 39) = false := bne_no (by rw [hd39]; rfl)
  have HPL := Lib.hid (refPlain_any s (by unfold maxLen; omega))
  cases hpl : pl s.data.toList with
  | false =>
    have H := Lib.hid (quotedR_no (l := s.data.toList) (.inr (.inr (.inr hpl))))
    rw [hpl] at HPL
    clear hll hb0 hhd hlast hpl
    go_enter Tryz.func231, Tryz.ntmps231
    go_wp2_with (go_at_call 76; (with_reducible refine (HPL.out _).mono ?_); rintro e w' ⟨rfl, rfl⟩)
    go_ret
    exact ⟨rb H.out.symm, rfl⟩
  | true =>
    have H := Lib.hid (quotedR_yes (l := s.data.toList) (by omega) (by rw [hhd, hc, h39]) (by rw [hlast, hd39]) hpl)
    rw [hpl] at HPL
    obtain ⟨mid, hmid⟩ : ∃ mid, (s.data.toList.drop 1).dropLast = mid := ⟨_, rfl⟩
    have hml2 : mid.length = m - 1 := by rw [← hmid, List.length_dropLast, List.length_drop]; omega
    rw [hmid] at H
    have HM := Lib.hid (fun k c h1 h2 (h3 : s.data.toList[k]? = some c) => mid_at (l := s.data.toList) (k := k) (c := c) h1 (by rw [hll]; exact h2) h3)
    rw [hmid] at HM
    have HML := Lib.hid hml2
    clear hll hb0 hhd hlast hpl hmid hml2
    go_enter Tryz.func231, Tryz.ntmps231
    go_wp2_with (go_at_call 76; (with_reducible refine (HPL.out _).mono ?_); rintro e w' ⟨rfl, rfl⟩)
    go_loop [4, 3] (fun i q => ∃ (k n : Nat), 1 ≤ k ∧ k ≤ m ∧ n ≤ k ∧ i = .int .i64 (k : Int) ∧ q = .int .i64 (n : Int) ∧ Hid (okM mid 0 = okM (mid.drop (k - 1)) n)) (fun i _ => m + 1 - (intOf i).toNat)
    case atStart => exact ⟨1, 0, Nat.le_refl _, by omega, by omega, rfl, rfl, Lib.hid (by rw [Nat.sub_self, List.drop_zero])⟩
    case round =>
      obtain ⟨k, n, hk1, hkm, hnk, rfl, rfl, HK⟩ := hrel
      by_cases hlt : k < m
      · have tl : decide ((k : Int) < (m : Int)) = true := decide_eq_true (by omega)
        have hks : k < s.size := by omega
        obtain ⟨x, hx⟩ : ∃ x, s[k] = x := ⟨_, rfl⟩
        have hmk := HM.out k x hk1 (by omega) (by rw [byte_at s k hks, hx])
        by_cases hx39 : x = 39
        · have tx : ((x.toNat : Int) != 39) = false := bne_no (by rw [hx39]; rfl)
          have HK2 := Lib.hid (show okM mid 0 = okM (mid.drop k) (n + 1) by rw [HK.out, hmk, hx39, okM_q])
          clear hmk hx39
          go_wp2
          go_round
          case rel => exact ⟨k + 1, n + 1, by omega, by omega, by omega, by go_num, by go_num, Lib.hid (by rw [HK2.out, Nat.add_sub_cancel])⟩
          case measure => simp [intOf]; omega
        · have tx : ((x.toNat : Int) != 39) = true := bne_yes (fun e => hx39 (byte_is' (k := 39) e))
          by_cases hodd : n % 2 = 1
          · have to : ((n : Int) % 2 == 1) = true := beq_yes (by omega)
            have HF := Lib.hid (show okM mid 0 = false by rw [HK.out, hmk, okM_c hx39, if_pos hodd])
            clear hmk hx39 hodd
            go_wp2
            go_ret
            exact ⟨rb (by rw [H.out, HF.out]), rfl⟩
          · have to : ((n : Int) % 2 == 1) = false := beq_no (by omega)
            have HK2 := Lib.hid (show okM mid 0 = okM (mid.drop k) n by rw [HK.out, hmk, okM_c hx39, if_neg hodd])
            clear hmk hx39 hodd
            go_wp2
            go_round
            case rel => exact ⟨k + 1, n, by omega, by omega, by omega, by go_num, rfl, Lib.hid (by rw [HK2.out, Nat.add_sub_cancel])⟩
            case measure => simp [intOf]; omega
      · have tl : decide ((k : Int) < (m : Int)) = false := decide_eq_false (by omega)
        have HE := Lib.hid (show okM mid 0 = ((n : Int) % 2 == 0) by
          rw [HK.out, List.drop_eq_nil_of_le (by have := HML.out; omega), okM]
          by_cases e : n % 2 = 0
          · rw [e, beq_yes (show (n : Int) % 2 = 0 by omega)]; rfl
          · rw [beq_no (show ¬ (n : Int) % 2 = 0 by omega), beq_eq_false_iff_ne]; exact e)
        go_wp2
        go_ret
        exact ⟨rb (by rw [H.out, HE.out]), rfl⟩
end Go.Proofs.YtbdippgamlknbaaGreatDoor.Lx
namespace Go.Proofs.YtbdippgamlknbaaGreatDoor.Right
open Go.RowKit Go.Proofs.YtbdippgamlknbaaGreatDoor.Mem
set_option linter.unusedVariables false
set_option maxHeartbeats 1000000 in
theorem refRight_any (k n : Int) (s : ByteArray) (w : World) (hs : s.size ≤ maxLen) :
    Calls Tryz.prog 43 #[.agg #[.int .i64 k, .int .i64 n, .string s]] w fun e w' => e = .returned (.bool (okV k n s.data.toList)) ∧ Below w.heap.size w w' := by
  by_cases h0 : k = 0
  · subst h0
    by_cases hn : n = 0
    · subst hn
      rcases empty_or s with rfl | ⟨he, t⟩
      · go_enter Tryz.func43, Tryz.ntmps43
        go_wp2
        go_ret
        exact ⟨rfl, al (Below.refl _ _) _⟩
      · have H := Lib.hid (show okV 0 0 s.data.toList = false by rw [ok_0, decide_eq_false he]; rfl)
        clear he
        go_enter Tryz.func43, Tryz.ntmps43
        go_wp2
        go_ret
        exact ⟨rb H.out.symm, al (Below.refl _ _) _⟩
    · have t := beq_no hn
      have H := Lib.hid (show okV 0 n s.data.toList = false by rw [ok_0, decide_eq_false hn]; rfl)
      clear hn
      go_enter Tryz.func43, Tryz.ntmps43
      go_wp2
      go_ret
      exact ⟨rb H.out.symm, al (Below.refl _ _) _⟩
  by_cases h1 : k = 1
  · subst h1
    rcases empty_or s with rfl | ⟨he, t⟩
    · go_enter Tryz.func43, Tryz.ntmps43
      go_wp2
      go_ret
      exact ⟨rfl, al (Below.refl _ _) _⟩
    · have H := Lib.hid (show okV 1 n s.data.toList = false by rw [ok_1, decide_eq_false he])
      clear he
      go_enter Tryz.func43, Tryz.ntmps43
      go_wp2
      go_ret
      exact ⟨rb H.out.symm, al (Below.refl _ _) _⟩
  by_cases h2 : k = 2
  · subst h2
    rcases empty_or s with rfl | ⟨he, t⟩
    · by_cases hn : n < 0
      · have H := Lib.hid (show okV 2 n (⟨#[]⟩ : ByteArray).data.toList = false by rw [ok_2, decide_eq_false (show ¬ n = 0 by omega), decide_eq_false (show ¬ n = 1 by omega)]; rfl)
        have t : decide (0 ≤ n) = false := decide_eq_false (by omega)
        clear hn
        go_enter Tryz.func43, Tryz.ntmps43
        go_wp2
        go_ret
        exact ⟨rb H.out.symm, al (Below.refl _ _) _⟩
      · by_cases hm : n ≤ 1
        · have H := Lib.hid (show okV 2 n (⟨#[]⟩ : ByteArray).data.toList = true by rcases (show n = 0 ∨ n = 1 by omega) with h | h <;> rw [h] <;> rfl)
          have t : decide (0 ≤ n) = true := decide_eq_true (by omega)
          have t1 : decide (n ≤ 1) = true := decide_eq_true (by omega)
          clear hn hm
          go_enter Tryz.func43, Tryz.ntmps43
          go_wp2
          go_ret
          exact ⟨rb H.out.symm, al (Below.refl _ _) _⟩
        · have H := Lib.hid (show okV 2 n (⟨#[]⟩ : ByteArray).data.toList = false by rw [ok_2, decide_eq_false (show ¬ n = 0 by omega), decide_eq_false (show ¬ n = 1 by omega)]; rfl)
          have t : decide (0 ≤ n) = true := decide_eq_true (by omega)
          have t1 : decide (n ≤ 1) = false := decide_eq_false (by omega)
          clear hn hm
          go_enter Tryz.func43, Tryz.ntmps43
          go_wp2
          go_ret
          exact ⟨rb H.out.symm, al (Below.refl _ _) _⟩
    · have H := Lib.hid (show okV 2 n s.data.toList = false by rw [ok_2, decide_eq_false he, Bool.and_false])
      clear he
      go_enter Tryz.func43, Tryz.ntmps43
      go_wp2
      go_ret
      exact ⟨rb H.out.symm, al (Below.refl _ _) _⟩
  by_cases h3 : k = 3
  · subst h3
    have hsz : s.data.toList.length = s.size := by rw [Array.length_toList]; rfl
    by_cases hn : n = 0
    · subst hn
      by_cases hl : s.size ≤ 32
      · have t : decide ((s.size : Int) ≤ 32) = true := decide_eq_true (by omega)
        have H := Lib.hid (show okV 3 0 s.data.toList = pl s.data.toList by rw [ok_3, hsz, decide_eq_true hl]; rfl)
        clear hl hsz
        go_enter Tryz.func43, Tryz.ntmps43
        go_wp2_with (go_at_call 76; (with_reducible refine (refPlain_any s hs _).mono ?_); rintro e w' ⟨rfl, rfl⟩)
        go_ret
        exact ⟨rb H.out.symm, al (Below.refl _ _) _⟩
      · have t : decide ((s.size : Int) ≤ 32) = false := decide_eq_false (by omega)
        have H := Lib.hid (show okV 3 0 s.data.toList = false by rw [ok_3, hsz, decide_eq_false hl, Bool.and_false]; rfl)
        clear hl hsz
        go_enter Tryz.func43, Tryz.ntmps43
        go_wp2
        go_ret
        exact ⟨rb H.out.symm, al (Below.refl _ _) _⟩
    · have t := beq_no hn
      have H := Lib.hid (show okV 3 n s.data.toList = false by rw [ok_3, decide_eq_false hn]; rfl)
      clear hn hsz
      go_enter Tryz.func43, Tryz.ntmps43
      go_wp2
      go_ret
      exact ⟨rb H.out.symm, al (Below.refl _ _) _⟩
  · have k0 := beq_no h0
    have k1 := beq_no h1
    have k2 := beq_no h2
    have k3 := beq_no h3
    have H := Lib.hid (ok_no (n := n) (l := s.data.toList) h0 h1 h2 h3)
    clear h0 h1 h2 h3
    go_enter Tryz.func43, Tryz.ntmps43
    go_wp2
    go_ret
    exact ⟨rb H.out.symm, al (Below.refl _ _) _⟩
end Go.Proofs.YtbdippgamlknbaaGreatDoor.Right
namespace Go.Proofs.YtbdippgamlknbaaGreatDoor.Ep
open Go.RowKit Go.Proofs.YtbdippgamlknbaaGreatDoor.Mem Go.Proofs.YtbdippgamlknbaaGreatDoor.Right
set_option linter.unusedVariables false
set_option maxHeartbeats 4000000 in
theorem refHeight_any : ∀ (e : Ex) (cs : List Value) (w : World), ExAt w w.heap.size e cs → size e ≤ 1000000 →
    Calls Tryz.prog 45 #[.agg cs.toArray] w fun x w' => x = .returned (.int .i64 (hgt e : Int)) ∧ Below w.heap.size w w' := by
  refine Ex.byKids fun k o vk vn vs nm kids ih cs w h hs => ?_
  obtain ⟨A, kn, c, rfl, hkn, -, -, -, hk⟩ := ex_open h
  rw [size] at hs
  rw [hgt_mk]
  have HB0 := Lib.hid (al (Below.refl w.heap.size w) (.cells #[.int .i64 k, .int .i64 o, .int .i64 vk, .int .i64 vn, .string (txt vs), .string (txt nm), .slice A kn c] 26))
  have HK := Lib.hid hk
  have HN := Lib.hid hkn
  have HSZ := Lib.hid hs
  have hkm : kn ≤ 1000000 := by have := sizeL_len kids; omega
  clear hk h hkn hs
  go_enter Tryz.func45, Tryz.ntmps45
  go_wp2
  go_loopw [4, 3] (fun i l wr => ∃ (j m : Nat), j ≤ kn ∧ m ≤ 1000000 ∧ i = .int .i64 (j : Int) ∧ l = .int .i64 (m : Int) ∧ Hid (m = hgtL (kids.take j)) ∧ Hid (Below (w.alloc (.cells #[.int .i64 k, .int .i64 o, .int .i64 vk, .int .i64 vn, .string (txt vs), .string (txt nm), .slice A kn c] 26)).heap.size (w.alloc (.cells #[.int .i64 k, .int .i64 o, .int .i64 vk, .int .i64 vn, .string (txt vs), .string (txt nm), .slice A kn c] 26)) wr)) (fun i _ _ => kn + 1 - (intOf i).toNat)
  case atStart => exact ⟨0, 0, Nat.zero_le _, by omega, rfl, rfl, Lib.hid (by rw [List.take_zero, hgtL]), Lib.hid (Below.refl _ _)⟩
  case round =>
    obtain ⟨j, m, hj, hm, rfl, rfl, HL, HB⟩ := hrel
    have HBw := Lib.hid (HB0.out.trans (HB.out.mono HB0.out.size))
    have d6 := HB.out.cell (p := ⟨w.heap.size, 6, none⟩) (by simp)
    by_cases hlt : j < kn
    · obtain ⟨x, hx⟩ := kid_some (l := kids) (j := j) (by have := HN.out; omega)
      obtain ⟨k', o', vk', vn', vs', nm', ks', A', n', c', b, p, e, rfl, hb, hn', c0, c1, c2, c3, c4, c5, c6, hin⟩ := kid_at HK.out hx
      have hsx : size x ≤ sizeL kids := sizeL_mem (kid_mem hx)
      obtain ⟨g, hg⟩ : ∃ g, hgt x = g := ⟨_, rfl⟩
      have hg6 : g ≤ 1000000 := by have := hgt_size x; have := HSZ.out; omega
      have HI : ∀ W, Below w.heap.size w W → Calls Tryz.prog 45 #[exV k' o' vk' vn' (txt vs') (txt nm') A' n' c'] W fun x' w' => x' = .returned (.int .i64 (g : Int)) ∧ Below W.heap.size W w' := fun W hW => by
        rw [← hg]
        exact ih x (kid_mem hx) _ W (ExAt.on hin hW) (by have := HSZ.out; omega)
      have HI := Lib.hid HI
      have HT := Lib.hid (show hgtL (kids.take (j + 1)) = max m g by rw [List.take_add_one, hx, HL.out, ← hg]; exact hgtL_snoc _ _)
      have c0 := (HBw.out.cell hb).trans c0
      have c1 := (HBw.out.cell hb).trans c1
      have c2 := (HBw.out.cell hb).trans c2
      have c3 := (HBw.out.cell hb).trans c3
      have c4 := (HBw.out.cell hb).trans c4
      have c5 := (HBw.out.cell hb).trans c5
      have c6 := (HBw.out.cell hb).trans c6
      have tl : decide ((j : Int) < (kn : Int)) = true := decide_eq_true (by omega)
      clear hin hn' e hx hg hsx
      by_cases hgm : m < g
      · have tg : decide ((m : Int) < (g : Int)) = true := decide_eq_true (by omega)
        go_wp2_with (go_at_call 45; (with_reducible refine (HI.out _ HBw.out).mono ?_); rintro e' w2 ⟨rfl, hb2⟩; have HB2 := Lib.hid hb2; clear hb2)
        go_roundw
        case rel => exact ⟨j + 1, g, by omega, by omega, by go_num, rfl, Lib.hid (by rw [HT.out]; omega), Lib.hid (HB.out.trans (HB2.out.mono HB.out.size))⟩
        case measure => simp [intOf]; omega
      · have tg : decide ((m : Int) < (g : Int)) = false := decide_eq_false (by omega)
        go_wp2_with (go_at_call 45; (with_reducible refine (HI.out _ HBw.out).mono ?_); rintro e' w2 ⟨rfl, hb2⟩; have HB2 := Lib.hid hb2; clear hb2)
        go_roundw
        case rel => exact ⟨j + 1, m, by omega, by omega, by go_num, rfl, Lib.hid (by rw [HT.out]; omega), Lib.hid (HB.out.trans (HB2.out.mono HB.out.size))⟩
        case measure => simp [intOf]; omega
    · have tl : decide ((j : Int) < (kn : Int)) = false := decide_eq_false (by omega)
      have hd : kids.take j = kids := List.take_of_length_le (by have := HN.out; omega)
      rw [hd] at HL
      go_wp2
      go_ret
      exact ⟨ri (by rw [← HL.out]; omega), HBw.out⟩
end Go.Proofs.YtbdippgamlknbaaGreatDoor.Ep

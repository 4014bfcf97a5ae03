/- The document's way to read a value's text (registrarref03.Read): the words, and quoted texts. -/
import Derived.Test.YtlkmhdbmcfblkaaGreatDoorRefKind
import Derived.Test.YtlkmhdbmcfblkaaGreatDoorValReads
import Derived.Test.YtlkmhdbmcfblkaaGreatDoorIsRights
namespace Go.Proofs.YtlkmhdbmcfblkaaGreatDoor.Lx
open Go.RowKit Go.Proofs.YtlkmhdbmcfblkaaGreatDoor.Mem Go.Proofs.YtlkmhdbmcfblkaaGreatDoor.Right
set_option linter.unusedVariables false

theorem q_of_ok : ∀ (n : Nat) (m : List UInt8), m.length ≤ n → okM m 0 = true → ∃ u, Val.q u = m
  | 0, m, hl, h => ⟨[], by have : m = [] := List.length_eq_zero_iff.1 (by omega); subst this; rfl⟩
  | n + 1, [], _, _ => ⟨[], rfl⟩
  | n + 1, [c], hl, h => by
    by_cases hc : c = 39
    · subst hc
      rw [okM_q, okM] at h
      simp at h
    · exact ⟨[c], by rw [Val.q, if_neg hc]; rfl⟩
  | n + 1, c :: d :: r, hl, h => by
    have hl2 : r.length + 2 ≤ n + 1 := by simpa using hl
    by_cases hc : c = 39
    · subst hc
      rw [okM_q] at h
      by_cases hd : d = 39
      · subst hd
        rw [okM_q, okM_two] at h
        obtain ⟨u, hu⟩ := q_of_ok n r (by omega) h
        exact ⟨39 :: u, by rw [Val.q, if_pos rfl, hu]⟩
      · rw [okM_c hd] at h
        simp at h
    · rw [okM_c hc] at h
      obtain ⟨u, hu⟩ := q_of_ok n (d :: r) (by simp; omega) (by simpa using h)
      exact ⟨c :: u, by rw [Val.q, if_neg hc, hu]⟩
theorem pl_plain (l : List UInt8) : Val.pl l = l.all plainB := by
  unfold Val.pl
  congr 1
  funext c
  exact byAll (p := fun c => !(decide ((c.toNat : Int) < 32) || decide (126 < (c.toNat : Int)))) (q := plainB) (by decide +kernel) c
theorem q_plain : ∀ (u : List UInt8), (Val.q u).all plainB = u.all plainB
  | [] => rfl
  | c :: u => by
    by_cases hc : c = 39
    · subst hc
      rw [Val.q, if_pos rfl, List.all_cons, List.all_cons, List.all_cons, q_plain u, show plainB 39 = true by decide]
      simp
    · rw [Val.q, if_neg hc, List.all_cons, List.all_cons, q_plain u]
/-- A quoted text is what is between its quotes. -/
theorem quo_of {l : List UInt8} (h : kindOf l = 4) : ∃ u, l = Val.quo u ∧ Val.pl u = true := by
  have hq : quotedR l = true := by
    cases l with
    | nil => cases h
    | cons c t =>
      rw [← kindR_is, kindR_cons] at h
      cases hq : quotedR (c :: t) with
      | true => rfl
      | false =>
        rw [hq] at h
        repeat' split at h
        all_goals first | omega | simp_all
  cases l with
  | nil => cases h
  | cons c t =>
    unfold quotedR at hq
    simp only [Bool.and_eq_true, decide_eq_true_eq] at hq
    obtain ⟨⟨⟨rfl, h2⟩, h3⟩, h4⟩ := hq
    have ht : t ≠ [] := fun e => by subst e; simp at h2
    have e1 : t = t.dropLast ++ [39] := by
      have h5 := List.dropLast_concat_getLast ht
      rw [List.getLast?_eq_some_getLast ht] at h2
      injection h2 with h2
      rw [h2] at h5
      exact h5.symm
    obtain ⟨u, hu⟩ := q_of_ok _ t.dropLast (Nat.le_refl _) h4
    refine ⟨u, ?_, ?_⟩
    · unfold Val.quo
      rw [hu, ← e1]
    · rw [e1, List.all_append, Bool.and_eq_true] at h3
      rw [pl_plain, ← q_plain, hu]
      exact h3.1
/-- Byte by byte. -/
theorem q_at {u : List UInt8} {i : Nat} {c : UInt8} (hi : u[i]? = some c) : Val.q (u.take (i + 1)) = Val.q (u.take i) ++ Val.q [c] ∧ Val.q u = Val.q (u.take i) ++ (Val.q [c] ++ Val.q (u.drop (i + 1))) := by
  have h1 : u.take (i + 1) = u.take i ++ [c] := by rw [List.take_add_one, hi]; rfl
  have h2 : u = u.take i ++ ([c] ++ u.drop (i + 1)) := by
    have := List.take_append_drop (i + 1) u
    rw [h1, List.append_assoc] at this
    exact this.symm
  refine ⟨by rw [h1, Val.q_app], ?_⟩
  conv => lhs; rw [h2, Val.q_app, Val.q_app]
theorem q_two : Val.q [39] = [39, 39] := rfl
theorem q_one {c : UInt8} (h : c ≠ 39) : Val.q [c] = [c] := by rw [Val.q, if_neg h]; rfl
theorem refWord_null (w : World) : Calls Tryz.prog 112 #[.string ⟨#[78, 85, 76, 76]⟩] w fun e w' => e = .returned (.tuple #[.agg #[.int .i64 0, .int .i64 0, .string ⟨#[]⟩], .int .i64 0]) ∧ Below w.heap.size w w' := by
  go_enter Tryz.func112, Tryz.ntmps112
  go_wp2
  (try simp only [Exit.inBlock, Exit.then])
  refine bodyPost_ret (v := .tuple #[.agg #[.int .i64 0, .int .i64 0, .string ⟨#[]⟩], .int .i64 0]) ?_ rfl ?_
  · rw [results_cell_tmp rfl]
    go_simp
  exact ⟨rfl, al (Below.refl _ _) _⟩
theorem refWord_true (w : World) : Calls Tryz.prog 112 #[.string ⟨#[84, 82, 85, 69]⟩] w fun e w' => e = .returned (.tuple #[.agg #[.int .i64 2, .int .i64 1, .string ⟨#[]⟩], .int .i64 0]) ∧ Below w.heap.size w w' := by
  go_enter Tryz.func112, Tryz.ntmps112
  go_wp2
  (try simp only [Exit.inBlock, Exit.then])
  refine bodyPost_ret (v := .tuple #[.agg #[.int .i64 2, .int .i64 1, .string ⟨#[]⟩], .int .i64 0]) ?_ rfl ?_
  · rw [results_cell_tmp rfl]
    go_simp
  exact ⟨rfl, al (al (Below.refl _ _) _) _⟩
theorem refWord_false (w : World) : Calls Tryz.prog 112 #[.string ⟨#[70, 65, 76, 83, 69]⟩] w fun e w' => e = .returned (.tuple #[.agg #[.int .i64 2, .int .i64 0, .string ⟨#[]⟩], .int .i64 0]) ∧ Below w.heap.size w w' := by
  go_enter Tryz.func112, Tryz.ntmps112
  go_wp2
  (try simp only [Exit.inBlock, Exit.then])
  refine bodyPost_ret (v := .tuple #[.agg #[.int .i64 2, .int .i64 0, .string ⟨#[]⟩], .int .i64 0]) ?_ rfl ?_
  · rw [results_cell_tmp rfl]
    go_simp
  exact ⟨rfl, al (al (Below.refl _ _) _) _⟩
set_option maxHeartbeats 2000000 in
theorem refRead_quo (u : List UInt8) (hp : Val.pl u = true) (s : ByteArray) (hs : s.data.toList = Val.quo u) (hl : s.size ≤ 1000000) (w : World) :
    Calls Tryz.prog 112 #[.string s] w fun e w' => e = .returned (.tuple #[.agg #[.int .i64 (if 32 < u.length then 0 else 3), .int .i64 0, .string (if 32 < u.length then ⟨#[]⟩ else ⟨u.toArray⟩)], .int .i64 (if 32 < u.length then 3 else 0)]) ∧ Below w.heap.size w w' := by
  have hll : s.data.toList.length = s.size := by rw [Array.length_toList]; rfl
  obtain ⟨m, hm⟩ : ∃ m, (Val.q u).length + 1 = m := ⟨_, rfl⟩
  have hsm : s.size = m + 1 := by
    rw [← hll, hs, ← hm]
    unfold Val.quo
    simp
  have hc0 : s.data.toList.head? = some 39 := by rw [hs]; rfl
  have n1 : (s.toList == [78, 85, 76, 76]) = false := by
    rw [Lib.toList_data, beq_eq_false_iff_ne]; intro e; rw [e] at hc0; cases hc0
  have n2 : (s.toList == [84, 82, 85, 69]) = false := by
    rw [Lib.toList_data, beq_eq_false_iff_ne]; intro e; rw [e] at hc0; cases hc0
  have n3 : (s.toList == [70, 65, 76, 83, 69]) = false := by
    rw [Lib.toList_data, beq_eq_false_iff_ne]; intro e; rw [e] at hc0; cases hc0
  have n4 : (s.toList == []) = false := by
    rw [Lib.toList_data, beq_eq_false_iff_ne]; intro e; rw [e] at hc0; cases hc0
  have hp0 : 0 < s.size := by omega
  have hb0 : s[0] = 39 := by
    have := byte_at s 0 hp0
    rw [hs] at this
    exact (Option.some.inj this).symm
  have hml : m < s.size := by omega
  have hbm : s[m] = 39 := by
    have h1 := byte_at s m hml
    obtain ⟨y, hy⟩ : ∃ y, s[m] = y := ⟨_, rfl⟩
    rw [hy, hs] at h1
    unfold Val.quo at h1
    rw [← hm, List.getElem?_cons_succ, List.getElem?_append_right (Nat.le_refl _), Nat.sub_self] at h1
    rw [hy]
    exact (Option.some.inj h1).symm
  have t0 : ((s[0].toNat : Int) != 39) = false := bne_no (by rw [hb0]; rfl)
  have tm : ((s[m].toNat : Int) != 39) = false := bne_no (by rw [hbm]; rfl)
  have t2 : decide ((s.size : Int) < 2) = false := decide_eq_false (by omega)
  have hmi : (s.size : Int) - 1 = (m : Int) := by omega
  have HPL := Lib.hid (show ∀ W, Calls Tryz.prog 141 #[.string s] W fun e w' => e = .returned (.bool true) ∧ w' = W from fun W => by
    have := refPlain_any s (by unfold maxLen; omega) W
    have e : pl s.data.toList = true := by
      unfold pl
      rw [plain_same, hs]
      unfold Val.quo
      rw [pl_plain, ← q_plain] at hp
      rw [List.all_cons, List.all_append, hp]
      decide
    rw [e] at this
    exact this.mono fun _ _ ⟨h1, h2⟩ => ⟨h1, by first | exact h2 | exact h2.symm⟩)
  have HAT := Lib.hid (show ∀ (i : Nat) (c : UInt8), u[i]? = some c → ∀ k, k = 1 + (Val.q (u.take i)).length → 1 + (Val.q (u.take (i + 1))).length = k + (Val.q [c]).length ∧ k + (Val.q [c]).length ≤ m ∧ ∀ j d, (Val.q [c])[j]? = some d → s.data.toList[k + j]? = some d from fun i c hi k hk => by
    obtain ⟨h1, h2⟩ := q_at hi
    have h3 := congrArg List.length h2
    rw [List.length_append, List.length_append] at h3
    refine ⟨by rw [h1, List.length_append]; omega, by omega, fun j d hj => ?_⟩
    have hjl := (List.getElem?_eq_some_iff.1 hj).1
    rw [hs]
    unfold Val.quo
    rw [show k + j = ((Val.q (u.take i)).length + j) + 1 by omega, List.getElem?_cons_succ, h2, List.append_assoc, List.getElem?_append_right (by omega), Nat.add_sub_cancel_left, List.append_assoc, List.getElem?_append_left hjl]
    exact hj)
  have HTX := Lib.hid (show ∀ (i k : Nat) (c : UInt8), u[i]? = some c → s.data.toList[k]? = some c → (⟨(u.take i).toArray⟩ : ByteArray) ++ s.extract k (k + 1) = ⟨(u.take (i + 1)).toArray⟩ from fun i k c hi hk => by
    refine WideShapes.bytes_inj ?_
    have e1 : u.take (i + 1) = u.take i ++ [c] := by rw [List.take_add_one, hi]; rfl
    have e2 : (s.extract k (k + 1)).data.toList = [c] := by
      rw [Lib.extract_data]
      have hkl := (List.getElem?_eq_some_iff.1 hk).1
      rw [show k + 1 - k = 1 by omega, List.drop_eq_getElem_cons hkl]
      have := (List.getElem?_eq_some_iff.1 hk).2
      rw [this]; rfl
    show ((⟨(u.take i).toArray⟩ : ByteArray) ++ s.extract k (k + 1)).data.toList = u.take (i + 1)
    rw [ByteArray.data_append, Array.toList_append, e2, e1])
  have HQE := Lib.hid (show 1 + (Val.q (u.take u.length)).length = m from by rw [List.take_length]; omega)
  have HS := Lib.hid hs
  have HUL := Lib.hid (show u.length ≤ 1000000 from by have := Val.q_len u; omega)
  have HP := Lib.hid hp
  have HSM := Lib.hid hsm
  obtain ⟨rk, hrk⟩ : ∃ r : Int, (if 32 < u.length then 0 else 3) = r := ⟨_, rfl⟩
  obtain ⟨rs, hrs⟩ : ∃ r : ByteArray, (if 32 < u.length then ⟨#[]⟩ else ⟨u.toArray⟩) = r := ⟨_, rfl⟩
  obtain ⟨re, hre⟩ : ∃ r : Int, (if 32 < u.length then 3 else 0) = r := ⟨_, rfl⟩
  rw [hrk, hrs, hre]
  have HR := Lib.hid (And.intro hrk (And.intro hrs hre))
  clear hrk hrs hre
  have hm1 : 1 ≤ m := by omega
  clear hs hp hll hc0 hb0 hbm hm hsm
  go_enter Tryz.func112, Tryz.ntmps112
  go_wp2_with (go_at_call 141; (with_reducible refine (HPL.out _).mono ?_); rintro e w' ⟨rfl, rfl⟩)
  go_loopw [8, 7] (fun i t wr => ∃ (k j : Nat), 1 ≤ k ∧ k ≤ m ∧ j ≤ u.length ∧ i = .int .i64 (k : Int) ∧ t = .string ⟨(u.take j).toArray⟩ ∧ Hid (k = 1 + (Val.q (u.take j)).length) ∧ Hid (Below w.heap.size w wr) ∧ Hid (Cel wr w.heap.size 29 #[.int .i64 0, .int .i64 0, .string ByteArray.empty])) (fun i _ _ => m + 1 - (intOf i).toNat)
  case atStart => exact ⟨1, 0, Nat.le_refl _, by omega, Nat.zero_le _, rfl, rfl, Lib.hid (by rw [List.take_zero]; rfl), Lib.hid (al (Below.refl _ _) _), Lib.hid (Cel.new _ _ _ rfl)⟩
  case round =>
    obtain ⟨k, j, hk1, hkm, hju, rfl, rfl, HK, HBW, HCW⟩ := hrel
    by_cases hj : j < u.length
    · obtain ⟨c, hc⟩ : ∃ c, u[j]? = some c := ⟨u[j], List.getElem?_eq_getElem hj⟩
      obtain ⟨a1, a2, a3⟩ := HAT.out j c hc k HK.out
      by_cases h39 : c = 39
      · subst h39
        rw [q_two] at a1 a2 a3
        have a2 : k + 2 ≤ m := a2
        have a1 : 1 + (Val.q (u.take (j + 1))).length = k + 2 := a1
        have tl : decide ((k : Int) < (m : Int)) = true := decide_eq_true (by omega)
        have hk0 : k < s.size := by have := HSM.out; omega
        have hk2 : k + 1 < s.size := by have := HSM.out; omega
        have b0 : s[k] = 39 := by
          have h1 := byte_at s k hk0
          rw [show s.data.toList[k]? = some 39 from a3 0 39 rfl] at h1
          exact (Option.some.inj h1).symm
        have b1 : s[k + 1] = 39 := by
          have h1 := byte_at s (k + 1) hk2
          rw [a3 1 39 rfl] at h1
          exact (Option.some.inj h1).symm
        have hx := HTX.out j (k + 1) 39 hc (a3 1 39 rfl)
        have hz1 : (⟨(u.take j).toArray⟩ : ByteArray).size ≤ 1000000 := by show (u.take j).length ≤ _; have h1 := HUL.out; rw [List.length_take]; omega
        have hz2 : (s.extract (k + 1) (k + 1 + 1)).size ≤ 1 := by rw [ByteArray.size_extract]; omega
        have tk0 : ((s[k].toNat : Int) == 39) = true := beq_yes (by rw [b0]; rfl)
        have tk1 : ((s[k + 1].toNat : Int) != 39) = false := bne_no (by rw [b1]; rfl)
        have tg : decide ((m : Int) ≤ (k : Int) + 1) = false := decide_eq_false (by omega)
        have HA := Lib.hid a1
        clear a1 a3 b0 b1 hc
        go_wp2
        go_roundw
        case rel => exact ⟨k + 2, j + 1, by omega, by omega, by omega, by go_num, rfl, Lib.hid HA.out.symm, HBW, HCW⟩
        case measure => simp [intOf]; omega
      · rw [q_one h39] at a1 a2 a3
        have a2 : k + 1 ≤ m := a2
        have a1 : 1 + (Val.q (u.take (j + 1))).length = k + 1 := a1
        have tl : decide ((k : Int) < (m : Int)) = true := decide_eq_true (by omega)
        have hk0 : k < s.size := by have := HSM.out; omega
        have b0 : s[k] = c := by
          have h1 := byte_at s k hk0
          rw [show s.data.toList[k]? = some c from a3 0 c rfl] at h1
          exact (Option.some.inj h1).symm
        have hx := HTX.out j k c hc (a3 0 c rfl)
        have hz1 : (⟨(u.take j).toArray⟩ : ByteArray).size ≤ 1000000 := by show (u.take j).length ≤ _; have h1 := HUL.out; rw [List.length_take]; omega
        have hz2 : (s.extract (k) (k + 1)).size ≤ 1 := by rw [ByteArray.size_extract]; omega
        have tk0 : ((s[k].toNat : Int) == 39) = false := beq_no (fun e => h39 (byte_is' (k := 39) (by rw [← b0]; exact e)))
        have HA := Lib.hid a1
        clear a1 a3 b0 hc
        go_wp2
        go_roundw
        case rel => exact ⟨k + 1, j + 1, by omega, by omega, by omega, by go_num, rfl, Lib.hid HA.out.symm, HBW, HCW⟩
        case measure => simp [intOf]; omega
    · obtain rfl : j = u.length := by omega
      have hkm2 : k = m := by rw [HK.out, HQE.out]
      subst hkm2
      have tl : decide ((k : Int) < (k : Int)) = false := decide_eq_false (by omega)
      have e1 : (⟨(u.take u.length).toArray⟩ : ByteArray) = ⟨u.toArray⟩ := by rw [List.take_length]
      have e2 : (⟨u.toArray⟩ : ByteArray).size = u.length := rfl
      rw [e1]
      by_cases h32 : 32 < u.length
      · have tt : decide (32 < ((⟨u.toArray⟩ : ByteArray).size : Int)) = true := decide_eq_true (by rw [e2]; omega)
        obtain ⟨g1, g2, g3⟩ := HR.out
        rw [if_pos h32] at g1 g2 g3
        subst g1 g2 g3
        have k0 := HCW.out.at_ 0
        have k1 := HCW.out.at_ 1
        have k2 := HCW.out.at_ 2
        have f0 := fun i => HCW.out.open_ i
        go_wp2
        (try simp only [Exit.inBlock, Exit.then])
        refine bodyPost_ret (v := .tuple #[.agg #[.int .i64 0, .int .i64 0, .string ⟨#[]⟩], .int .i64 3]) ?_ rfl ?_
        · rw [results_cell_tmp rfl]
          go_simp
        exact ⟨rfl, ((HBW.out.setCell (p := ⟨w.heap.size, 0, none⟩) (Nat.le_refl _) _).setCell (p := ⟨w.heap.size, 1, none⟩) (Nat.le_refl _) _).setCell (p := ⟨w.heap.size, 2, none⟩) (Nat.le_refl _) _⟩
      · have tt : decide (32 < ((⟨u.toArray⟩ : ByteArray).size : Int)) = false := decide_eq_false (by rw [e2]; omega)
        obtain ⟨g1, g2, g3⟩ := HR.out
        rw [if_neg h32] at g1 g2 g3
        subst g1 g2 g3
        have k0 := HCW.out.at_ 0
        have k1 := HCW.out.at_ 1
        have k2 := HCW.out.at_ 2
        have f0 := fun i => HCW.out.open_ i
        go_wp2
        (try simp only [Exit.inBlock, Exit.then])
        refine bodyPost_ret (v := .tuple #[.agg #[.int .i64 3, .int .i64 0, .string ⟨u.toArray⟩], .int .i64 0]) ?_ rfl ?_
        · rw [results_cell_tmp rfl]
          go_simp
        exact ⟨rfl, ((HBW.out.setCell (p := ⟨w.heap.size, 0, none⟩) (Nat.le_refl _) _).setCell (p := ⟨w.heap.size, 1, none⟩) (Nat.le_refl _) _).setCell (p := ⟨w.heap.size, 2, none⟩) (Nat.le_refl _) _⟩
end Go.Proofs.YtlkmhdbmcfblkaaGreatDoor.Lx

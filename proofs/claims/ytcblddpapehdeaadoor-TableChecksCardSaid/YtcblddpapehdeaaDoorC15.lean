/- The columns that a tree names, each once, in the text's order; its greatest parameter. The document's own way to tell a token's kind: are all bytes of a text, from one on, in a  The document's own way to tell a token's kind: is a text a quoted one, is it a sign? An operation of a region that draws its order, which only reads. -/
import Derived.Test.YtcblddpapehdeaaDoorC01
import Derived.BigQuiet
import Derived.Deep.QuietTactic
import Derived.Test.YtcblddpapehdeaaDoorC04
import Derived.Test.YtcblddpapehdeaaDoorC07
import Derived.Test.YtcblddpapehdeaaDoorC10
import Derived.Test.YtcblddpapehdeaaDoorC11
import Derived.Test.YtcblddpapehdeaaDoorC09
import Derived.WalkKit
import Derived.ProofKit
import Derived.BigFrame
import Derived.Test.YtcblddpapehdeaaDoorProg
namespace Go.Proofs.YtcblddpapehdeaaDoor.Tk
open Go.Proofs.YtcblddpapehdeaaDoor.Ep
set_option linter.unusedVariables false
/-- One more, if it is not there. -/
def addN (L : List (List UInt8)) (s : List UInt8) : List (List UInt8) := if s ∈ L then L else L ++ [s]
def ownN (k : Int) (nm : List UInt8) : List (List UInt8) := if k = 2 then [nm] else []
mutual
/-- The columns, one behind the other. -/
def colsE : Ex → List (List UInt8)
  | .mk k _ _ _ _ nm kids => ownN k nm ++ colsL kids
def colsL : List Ex → List (List UInt8)
  | [] => []
  | x :: l => colsE x ++ colsL l
end
def namesE (e : Ex) : List (List UInt8) := (colsE e).foldl addN []
mutual
/-- The greatest parameter, from n on. -/
def parE (n : Int) : Ex → Int
  | .mk k o _ _ _ _ kids => parL (if k = 3 then max n o else n) kids
def parL (n : Int) : List Ex → Int
  | [] => n
  | x :: l => parL (parE n x) l
end
theorem colsE_mk (k o vk vn : Int) (vs nm : List UInt8) (kids : List Ex) : colsE (.mk k o vk vn vs nm kids) = ownN k nm ++ colsL kids := by rw [colsE]
theorem parE_mk (n k o vk vn : Int) (vs nm : List UInt8) (kids : List Ex) : parE n (.mk k o vk vn vs nm kids) = parL (if k = 3 then max n o else n) kids := by rw [parE]
theorem colsL_app : ∀ l r : List Ex, colsL (l ++ r) = colsL l ++ colsL r
  | [], r => by rw [colsL]; rfl
  | x :: l, r => by rw [List.cons_append, colsL, colsL, colsL_app l r, List.append_assoc]
theorem parL_app : ∀ (l r : List Ex) (n : Int), parL n (l ++ r) = parL (parL n l) r
  | [], r, n => by rw [parL]; rfl
  | x :: l, r, n => by rw [List.cons_append, parL, parL, parL_app l r]
theorem take_cols {l : List Ex} {j : Nat} {x : Ex} (h : l[j]? = some x) (L : List (List UInt8)) : (colsE x).foldl addN ((colsL (l.take j)).foldl addN L) = (colsL (l.take (j + 1))).foldl addN L := by
  rw [List.take_add_one, h, colsL_app, List.foldl_append]
  show _ = (colsL [x]).foldl addN _
  rw [colsL, colsL, List.append_nil]
theorem take_par {l : List Ex} {j : Nat} {x : Ex} (h : l[j]? = some x) (n : Int) : parE (parL n (l.take j)) x = parL n (l.take (j + 1)) := by
  rw [List.take_add_one, h, parL_app]
  show _ = parL _ [x]
  rw [parL, parL]
theorem mem_addN {L : List (List UInt8)} {s t : List UInt8} : t ∈ addN L s ↔ t ∈ L ∨ t = s := by
  unfold addN
  split
  · rename_i h
    constructor
    · exact .inl
    · rintro (g | rfl)
      · exact g
      · exact h
  · simp
theorem mem_fold {t : List UInt8} : ∀ {M L : List (List UInt8)}, t ∈ M.foldl addN L ↔ t ∈ L ∨ t ∈ M
  | [], L => by simp
  | s :: M, L => by
    rw [List.foldl_cons, mem_fold, mem_addN]
    simp [or_assoc]
/-- A column is named just if it is one of all that stand there. -/
theorem mem_names {e : Ex} {t : List UInt8} : t ∈ namesE e ↔ t ∈ colsE e := by
  unfold namesE
  rw [mem_fold]
  simp
theorem addN_nodup {L : List (List UInt8)} (h : L.Nodup) (s : List UInt8) : (addN L s).Nodup := by
  unfold addN
  split
  · exact h
  · rename_i hs
    rw [List.nodup_append]
    exact ⟨h, by simp, fun a ha b hb => by simp at hb; subst hb; rintro rfl; exact hs ha⟩
theorem fold_nodup : ∀ (M : List (List UInt8)) {L : List (List UInt8)}, L.Nodup → (M.foldl addN L).Nodup
  | [], _, h => h
  | s :: M, L, h => by rw [List.foldl_cons]; exact fold_nodup M (addN_nodup h s)
theorem names_nodup (e : Ex) : (namesE e).Nodup := fold_nodup _ (by simp)
theorem addN_len (L : List (List UInt8)) (s : List UInt8) : (addN L s).length ≤ L.length + 1 := by
  unfold addN
  split
  · omega
  · simp
theorem fold_len : ∀ (M L : List (List UInt8)), (M.foldl addN L).length ≤ L.length + M.length
  | [], L => by simp
  | s :: M, L => by
    rw [List.foldl_cons]
    have h1 := fold_len M (addN L s)
    have h2 := addN_len L s
    simp only [List.length_cons]
    omega
end Go.Proofs.YtcblddpapehdeaaDoor.Tk
namespace Go.Proofs.YtcblddpapehdeaaDoor.Lx
open Go.RowKit Go.Proofs.YtcblddpapehdeaaDoor.Mem Go.Proofs.YtcblddpapehdeaaDoor.Right
set_option linter.unusedVariables false
def inS (l : List UInt8) (c : UInt8) : Bool := decide (c ∈ l)
theorem inS_snoc (l : List UInt8) (x c : UInt8) : inS (l ++ [x]) c = (inS l c || decide (x = c)) := by
  unfold inS
  by_cases h1 : c ∈ l <;> by_cases h2 : x = c <;> simp [h1, h2]
  all_goals first | (subst h2; simp) | (intro h; exact absurd h.symm h2)
theorem inS_contains (l : List UInt8) (c : UInt8) : inS l c = l.contains c := by unfold inS; simp
theorem all_from {p : UInt8 → Bool} {l : List UInt8} {n : Nat} : (l.drop n).all p = true ↔ ∀ i c, n ≤ i → l[i]? = some c → p c = true := by
  rw [List.all_eq_true]
  constructor
  · intro h i c hi hc
    refine h c (List.mem_iff_getElem?.2 ⟨i - n, ?_⟩)
    rw [List.getElem?_drop, show n + (i - n) = i by omega]
    exact hc
  · intro h c hc
    obtain ⟨i, hi⟩ := List.mem_iff_getElem?.1 hc
    rw [List.getElem?_drop] at hi
    exact h (n + i) c (by omega) hi
theorem byte_at (s : ByteArray) (k : Nat) (h : k < s.size) : s.data.toList[k]? = some s[k] := by
  rw [Array.getElem?_toList]
  exact Array.getElem?_eq_getElem h
theorem beq_bytes (a b : UInt8) : ((a.toNat : Int) == (b.toNat : Int)) = decide (a = b) := by
  by_cases h : a = b
  · subst h; simp
  · rw [decide_eq_false h]
    exact beq_no fun e => h (UInt8.toNat_inj.1 (by omega))
theorem drewN_below {B : Nat} {w a : World} (h : Below B w a) (n : Nat) : Below B w (a.drewN n) := h.trans ⟨rfl, rfl, rfl, Nat.le_refl _, fun _ _ => rfl⟩
set_option maxHeartbeats 4000000 in
theorem all_any (s z : ByteArray) (n : Nat) (hs : s.size ≤ 1000000) (hz : z.size ≤ 1000) (hn : n ≤ 1000000) (w : World) :
    Calls Tryd.prog 123 #[.string s, .int .i64 (n : Int), .string z] w fun e w' => e = .returned (.bool ((s.data.toList.drop n).all (inS z.data.toList))) ∧ Below w.heap.size w w' := by
  go_enter Tryd.func123, Tryd.ntmps123
  go_wp2
  go_loopw [7] (fun i wr => ∃ k : Nat, n ≤ k ∧ k ≤ 1000000 ∧ i = .int .i64 (k : Int) ∧ Hid (∀ i c, n ≤ i → i < k → s.data.toList[i]? = some c → inS z.data.toList c = true) ∧ Hid (Below w.heap.size w wr)) (fun i _ => 1000001 - (intOf i).toNat)
  case atStart => exact ⟨n, Nat.le_refl _, hn, rfl, Lib.hid (fun i c h1 h2 => by omega), Lib.hid (Below.refl _ _)⟩
  case round =>
    obtain ⟨k, hk, hk6, rfl, HA, HB⟩ := hrel
    by_cases hlt : k < s.size
    · have tl : decide ((k : Int) < (s.size : Int)) = true := decide_eq_true (by omega)
      obtain ⟨c, hc⟩ : ∃ c, s[k] = c := ⟨_, rfl⟩
      have HC := Lib.hid (show s.data.toList[k]? = some c by rw [byte_at s k hlt, hc])
      go_wp2
      go_loopw [8, 9] (fun b i wr => ∃ (j : Nat) (x : Bool), j ≤ z.size ∧ b = .bool x ∧ i = .int .i64 (j : Int) ∧ Hid (x = inS (z.data.toList.take j) c) ∧ Hid (Below w.heap.size w wr)) (fun _ i _ => z.size + 1 - (intOf i).toNat)
      case atStart => exact ⟨0, false, Nat.zero_le _, rfl, rfl, Lib.hid (by rw [List.take_zero]; rfl), HB⟩
      case round =>
        obtain ⟨j, x, hj, rfl, rfl, HX, HB2⟩ := hrel
        by_cases hlj : j < z.size
        · have tj : decide ((j : Int) < (z.size : Int)) = true := decide_eq_true (by omega)
          obtain ⟨d, hd⟩ : ∃ d, z[j] = d := ⟨_, rfl⟩
          have HS := Lib.hid (show inS (z.data.toList.take (j + 1)) c = (x || decide (d = c)) by rw [take_snoc z j hlj, inS_snoc, ← HX.out, hd])
          cases x with
          | true =>
            go_wp2
            go_quiet (fail)
            go_wp2
            go_roundw
            case rel => exact ⟨j + 1, true, by omega, rfl, by go_num, Lib.hid (by rw [HS.out]; rfl), Lib.hid (drewN_below HB2.out _)⟩
            case measure => simp [intOf]; omega
          | false =>
            have tb : ((d.toNat : Int) == (c.toNat : Int)) = decide (d = c) := beq_bytes d c
            obtain ⟨y, hy⟩ : ∃ y, decide (d = c) = y := ⟨_, rfl⟩
            rw [hy] at tb
            have HS := Lib.hid (show inS (z.data.toList.take (j + 1)) c = y by rw [HS.out, hy]; rfl)
            clear hy
            go_wp2
            go_quiet (fail)
            go_wp2
            go_roundw
            case rel => exact ⟨j + 1, y, by omega, rfl, by go_num, Lib.hid HS.out.symm, Lib.hid (drewN_below HB2.out _)⟩
            case measure => simp [intOf]; omega
        · have tj : decide ((j : Int) < (z.size : Int)) = false := decide_eq_false (by omega)
          have HF := Lib.hid (show x = inS z.data.toList c by rw [HX.out, List.take_of_length_le (by rw [Array.length_toList]; exact Nat.le_of_not_lt hlj)])
          cases x with
          | true =>
            go_wp2
            go_roundw
            case rel => exact ⟨k + 1, by omega, by omega, by go_num, Lib.hid (fun i c' h1 h2 h3 => by
              by_cases e : i = k
              · subst e
                rw [HC.out] at h3
                injection h3 with h3
                rw [← h3]; exact HF.out.symm
              · exact HA.out i c' h1 (by omega) h3), HB2⟩
            case measure => simp [intOf]; omega
          | false =>
            have HN := Lib.hid (show (s.data.toList.drop n).all (inS z.data.toList) = false by
              rw [Bool.eq_false_iff]
              intro h
              have := all_from.1 h k c hk HC.out
              rw [← HF.out] at this
              cases this)
            go_wp2
            go_ret
            exact ⟨rb HN.out.symm, HB2.out⟩
    · have tl : decide ((k : Int) < (s.size : Int)) = false := decide_eq_false (by omega)
      have HY := Lib.hid (show (s.data.toList.drop n).all (inS z.data.toList) = true from all_from.2 fun i c h1 h3 => HA.out i c h1 (by have := (List.getElem?_eq_some_iff.1 h3).1; rw [Array.length_toList] at this; exact Nat.lt_of_lt_of_le this (Nat.le_of_not_lt hlt)) h3)
      go_wp2
      go_ret
      exact ⟨rb HY.out.symm, HB.out⟩
end Go.Proofs.YtcblddpapehdeaaDoor.Lx
namespace Go.Proofs.YtcblddpapehdeaaDoor.Lx
open Go.RowKit Go.Proofs.YtcblddpapehdeaaDoor.Mem Go.Proofs.YtcblddpapehdeaaDoor.Right
set_option linter.unusedVariables false
theorem plain_same : okB = plainB := by
  funext c
  exact byAll (p := okB) (q := plainB) (by decide +kernel) c
/-- The middle of a text, byte by byte. -/
theorem mid_at {l : List UInt8} {k : Nat} {c : UInt8} (hk : 1 ≤ k) (h : k + 1 < l.length) (hc : l[k]? = some c) : ((l.drop 1).dropLast).drop (k - 1) = c :: ((l.drop 1).dropLast).drop k := by
  have hl : ((l.drop 1).dropLast).length = l.length - 2 := by rw [List.length_dropLast, List.length_drop]; omega
  have hlt : k - 1 < ((l.drop 1).dropLast).length := by omega
  rw [List.drop_eq_getElem_cons hlt, show k - 1 + 1 = k by omega]
  congr 1
  have : ((l.drop 1).dropLast)[k - 1]? = some c := by
    rw [List.getElem?_dropLast, if_pos (by rw [List.length_drop]; omega), List.getElem?_drop, show 1 + (k - 1) = k by omega]
    exact hc
  rw [List.getElem?_eq_getElem hlt] at this
  exact Option.some.inj this
theorem quotedR_no {l : List UInt8} (h : l.length < 2 ∨ l.head? ≠ some 39 ∨ l.getLast? ≠ some 39 ∨ pl l = false) : quotedR l = false := by
  match l with
  | [] => rfl
  | c :: t =>
    unfold quotedR
    rcases h with h | h | h | h
    · have : t = [] := List.length_eq_zero_iff.1 (by simp at h; omega)
      subst this; simp
    · have : c ≠ 39 := fun e => h (by rw [e]; rfl)
      simp [this]
    · by_cases ht : t = []
      · subst ht; simp
      · have : t.getLast? ≠ some 39 := fun e => h (by rw [List.getLast?_cons, e]; rfl)
        simp [this]
    · unfold pl at h
      rw [List.all_cons, plain_same] at h
      by_cases hc : c = 39
      · subst hc
        rw [show plainB 39 = true by decide, Bool.true_and] at h
        simp [h]
      · simp [hc]
theorem quotedR_yes {l : List UInt8} (h2 : 2 ≤ l.length) (h : l.head? = some 39) (hl : l.getLast? = some 39) (hp : pl l = true) : quotedR l = okM ((l.drop 1).dropLast) 0 := by
  match l with
  | [] => simp at h2
  | c :: t =>
    have hc : c = 39 := by simpa using h
    have ht : t ≠ [] := fun e => by subst e; simp at h2
    obtain ⟨d, r, rfl⟩ := List.exists_cons_of_ne_nil ht
    rw [List.getLast?_cons_cons] at hl
    unfold pl at hp
    rw [List.all_cons, plain_same, Bool.and_eq_true] at hp
    unfold quotedR
    simp [hc, hl, hp.2]
set_option maxHeartbeats 4000000 in
theorem refQuoted_any (s : ByteArray) (hs : s.size ≤ 1000000) (w : World) :
    Calls Tryd.prog 124 #[.string s] w fun e w' => e = .returned (.bool (quotedR s.data.toList)) ∧ w = w' := by
  have hll : s.data.toList.length = s.size := by rw [Array.length_toList]; rfl
  by_cases h2 : s.size < 2
  · have t2 : decide ((s.size : Int) < 2) = true := decide_eq_true (by omega)
    have H := Lib.hid (quotedR_no (l := s.data.toList) (.inl (by omega)))
    clear hll
    go_enter Tryd.func124, Tryd.ntmps124
    go_wp2
    go_ret
    exact ⟨rb H.out.symm, rfl⟩
  have t2 : decide ((s.size : Int) < 2) = false := decide_eq_false (by omega)
  have hp0 : 0 < s.size := by omega
  have hb0 := byte_at s 0 hp0
  have hhd : s.data.toList.head? = some s[0] := by rw [List.head?_eq_getElem?]; exact hb0
  obtain ⟨c, hc⟩ : ∃ c, s[0] = c := ⟨_, rfl⟩
  by_cases h39 : ¬ c = 39
  · have tc : ((c.toNat : Int) != 39) = true := bne_yes (fun e => h39 (byte_is' (k := 39) e))
    have H := Lib.hid (quotedR_no (l := s.data.toList) (.inr (.inl (by rw [hhd, hc]; exact fun e => h39 (by injection e)))))
    clear hll hb0 hhd
    go_enter Tryd.func124, Tryd.ntmps124
    go_wp2
    go_ret
    exact ⟨rb H.out.symm, rfl⟩
  have h39 := Classical.not_not.1 h39
  have tc : ((c.toNat : Int) != 39) = false := bne_no (by rw [h39]; rfl)
  obtain ⟨m, hm⟩ : ∃ m, s.size = m + 1 := ⟨s.size - 1, by omega⟩
  have hml : m < s.size := by omega
  have hmi : (s.size : Int) - 1 = (m : Int) := by omega
  obtain ⟨d, hd⟩ : ∃ d, s[m] = d := ⟨_, rfl⟩
  have hlast : s.data.toList.getLast? = some d := by
    rw [List.getLast?_eq_getElem?, hll, show s.size - 1 = m by omega, byte_at s m hml, hd]
  by_cases hd39 : ¬ d = 39
  · have td : ((d.toNat : Int) != 39) = true := bne_yes (fun e => hd39 (byte_is' (k := 39) e))
    have H := Lib.hid (quotedR_no (l := s.data.toList) (.inr (.inr (.inl (by rw [hlast]; exact fun e => hd39 (by injection e))))))
    clear hll hb0 hhd hlast
    go_enter Tryd.func124, Tryd.ntmps124
    go_wp2
    go_ret
    exact ⟨rb H.out.symm, rfl⟩
  have hd39 := Classical.not_not.1 hd39
  have td : ((d.toNat : Int) != 39) = false := bne_no (by rw [hd39]; rfl)
  have HPL := Lib.hid (refPlain_any s (by unfold maxLen; omega))
  cases hpl : pl s.data.toList with
  | false =>
    have H := Lib.hid (quotedR_no (l := s.data.toList) (.inr (.inr (.inr hpl))))
    rw [hpl] at HPL
    clear hll hb0 hhd hlast hpl
    go_enter Tryd.func124, Tryd.ntmps124
    go_wp2_with (go_at_call 73; (with_reducible refine (HPL.out _).mono ?_); rintro e w' ⟨rfl, rfl⟩)
    go_ret
    exact ⟨rb H.out.symm, rfl⟩
  | true =>
    have H := Lib.hid (quotedR_yes (l := s.data.toList) (by omega) (by rw [hhd, hc, h39]) (by rw [hlast, hd39]) hpl)
    rw [hpl] at HPL
    obtain ⟨mid, hmid⟩ : ∃ mid, (s.data.toList.drop 1).dropLast = mid := ⟨_, rfl⟩
    have hml2 : mid.length = m - 1 := by rw [← hmid, List.length_dropLast, List.length_drop]; omega
    rw [hmid] at H
    have HM := Lib.hid (fun k c h1 h2 (h3 : s.data.toList[k]? = some c) => mid_at (l := s.data.toList) (k := k) (c := c) h1 (by rw [hll]; exact h2) h3)
    rw [hmid] at HM
    have HML := Lib.hid hml2
    clear hll hb0 hhd hlast hpl hmid hml2
    go_enter Tryd.func124, Tryd.ntmps124
    go_wp2_with (go_at_call 73; (with_reducible refine (HPL.out _).mono ?_); rintro e w' ⟨rfl, rfl⟩)
    go_loop [4, 3] (fun i q => ∃ (k n : Nat), 1 ≤ k ∧ k ≤ m ∧ n ≤ k ∧ i = .int .i64 (k : Int) ∧ q = .int .i64 (n : Int) ∧ Hid (okM mid 0 = okM (mid.drop (k - 1)) n)) (fun i _ => m + 1 - (intOf i).toNat)
    case atStart => exact ⟨1, 0, Nat.le_refl _, by omega, by omega, rfl, rfl, Lib.hid (by rw [Nat.sub_self, List.drop_zero])⟩
    case round =>
      obtain ⟨k, n, hk1, hkm, hnk, rfl, rfl, HK⟩ := hrel
      by_cases hlt : k < m
      · have tl : decide ((k : Int) < (m : Int)) = true := decide_eq_true (by omega)
        have hks : k < s.size := by omega
        obtain ⟨x, hx⟩ : ∃ x, s[k] = x := ⟨_, rfl⟩
        have hmk := HM.out k x hk1 (by omega) (by rw [byte_at s k hks, hx])
        by_cases hx39 : x = 39
        · have tx : ((x.toNat : Int) != 39) = false := bne_no (by rw [hx39]; rfl)
          have HK2 := Lib.hid (show okM mid 0 = okM (mid.drop k) (n + 1) by rw [HK.out, hmk, hx39, okM_q])
          clear hmk hx39
          go_wp2
          go_round
          case rel => exact ⟨k + 1, n + 1, by omega, by omega, by omega, by go_num, by go_num, Lib.hid (by rw [HK2.out, Nat.add_sub_cancel])⟩
          case measure => simp [intOf]; omega
        · have tx : ((x.toNat : Int) != 39) = true := bne_yes (fun e => hx39 (byte_is' (k := 39) e))
          by_cases hodd : n % 2 = 1
          · have to : ((n : Int) % 2 == 1) = true := beq_yes (by omega)
            have HF := Lib.hid (show okM mid 0 = false by rw [HK.out, hmk, okM_c hx39, if_pos hodd])
            clear hmk hx39 hodd
            go_wp2
            go_ret
            exact ⟨rb (by rw [H.out, HF.out]), rfl⟩
          · have to : ((n : Int) % 2 == 1) = false := beq_no (by omega)
            have HK2 := Lib.hid (show okM mid 0 = okM (mid.drop k) n by rw [HK.out, hmk, okM_c hx39, if_neg hodd])
            clear hmk hx39 hodd
            go_wp2
            go_round
            case rel => exact ⟨k + 1, n, by omega, by omega, by omega, by go_num, rfl, Lib.hid (by rw [HK2.out, Nat.add_sub_cancel])⟩
            case measure => simp [intOf]; omega
      · have tl : decide ((k : Int) < (m : Int)) = false := decide_eq_false (by omega)
        have HE := Lib.hid (show okM mid 0 = ((n : Int) % 2 == 0) by
          rw [HK.out, List.drop_eq_nil_of_le (by have := HML.out; omega), okM]
          by_cases e : n % 2 = 0
          · rw [e, beq_yes (show (n : Int) % 2 = 0 by omega)]; rfl
          · rw [beq_no (show ¬ (n : Int) % 2 = 0 by omega), beq_eq_false_iff_ne]; exact e)
        go_wp2
        go_ret
        exact ⟨rb (by rw [H.out, HE.out]), rfl⟩
end Go.Proofs.YtcblddpapehdeaaDoor.Lx
namespace Go.Proofs.YtcblddpapehdeaaDoor.Mem
open Go.RowKit
set_option linter.unusedVariables false
theorem quietC_val {C : World → Prop} {K : Act → Prop} {o : Oper} {a : Act} (h : ∃ v, (∀ w, C w → (execOp a.eval o).run Tryd.prog w = .ok (.value v) w) ∧ K (a.put o.dst v)) : o.quiet Tryd.prog a C K := by
  obtain ⟨v, h1, h2⟩ := h
  exact ⟨v, fun w hw => by unfold Oper.quietAt; rw [h1 w hw]; exact ⟨rfl, rfl⟩, h2⟩
end Go.Proofs.YtcblddpapehdeaaDoor.Mem

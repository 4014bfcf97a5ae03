/- A page as a list of slots: its bytes; what the moves of bytes within it make of it. No dump. -/
import Derived.Laws.CopyOwn
namespace Go.Proofs.Ythcilmlaoddckaa.Pg
set_option linter.unusedVariables false

/-- A slot: empty, or with data. -/
abbrev Sl := Option (List UInt8)
def dat : Sl → List UInt8
  | none => []
  | some d => d
def mk : Sl → Nat
  | none => 0
  | some d => d.length + 1
def ln (s : Sl) : Nat := (dat s).length
def tot : List Sl → Nat
  | [] => 0
  | s :: S => ln s + tot S
def hi (n : Nat) : UInt8 := UInt8.ofNat (n / 256)
def lo (n : Nat) : UInt8 := UInt8.ofNat (n % 256)
def two (n : Nat) : List UInt8 := [hi n, lo n]
def marks : List Sl → List UInt8
  | [] => []
  | s :: S => two (mk s) ++ marks S
def tl : List Sl → List UInt8
  | [] => []
  | s :: S => tl S ++ dat s
def zs (n : Nat) : List UInt8 := List.replicate n 0
/-- The bytes of a page that tells n slots, and has these. -/
def pgn (n : Nat) (S : List Sl) : List UInt8 := two n ++ (marks S ++ (zs (510 - 2 * S.length - tot S) ++ tl S))
def pg (S : List Sl) : List UInt8 := pgn S.length S
structure Fit (S : List Sl) : Prop where
  room : 2 + 2 * S.length + tot S ≤ 512
  each : ∀ s ∈ S, ln s ≤ 255
/-- How many slots there are up to the last one that is not empty. -/
def lst : List Sl → Nat
  | [] => 0
  | s :: S => if lst S = 0 then (if s.isSome then 1 else 0) else lst S + 1
structure Ok (S : List Sl) : Prop where
  fit : Fit S
  last : lst S = S.length
def put2 (L : List UInt8) (k n : Nat) : List UInt8 := (L.set k (hi n)).set (k + 1) (lo n)

theorem hi_lo (n : Nat) (h : n < 65536) : (hi n).toNat * 256 + (lo n).toNat = n := by
  unfold hi lo
  rw [UInt8.toNat_ofNat', UInt8.toNat_ofNat']
  omega
theorem len_two (n : Nat) : (two n).length = 2 := rfl
theorem len_marks : ∀ S : List Sl, (marks S).length = 2 * S.length
  | [] => rfl
  | s :: S => by
    have := len_marks S
    unfold marks
    rw [List.length_append, len_two, this, List.length_cons]; omega
theorem len_tl : ∀ S : List Sl, (tl S).length = tot S
  | [] => rfl
  | s :: S => by
    have := len_tl S
    unfold tl tot
    rw [List.length_append, this]
    unfold ln; omega
theorem len_zs (n : Nat) : (zs n).length = n := by simp [zs]
theorem len_pgn {n : Nat} {S : List Sl} (h : 2 + 2 * S.length + tot S ≤ 512) : (pgn n S).length = 512 := by
  unfold pgn
  rw [List.length_append, List.length_append, List.length_append, len_two, len_marks, len_zs, len_tl]; omega
theorem Fit.len {S : List Sl} (h : Fit S) : (pg S).length = 512 := len_pgn h.room
theorem marks_app : ∀ S T : List Sl, marks (S ++ T) = marks S ++ marks T
  | [], T => rfl
  | s :: S, T => by
    have := marks_app S T
    show two (mk s) ++ marks (S ++ T) = (two (mk s) ++ marks S) ++ marks T
    rw [this, List.append_assoc]
theorem tl_app : ∀ S T : List Sl, tl (S ++ T) = tl T ++ tl S
  | [], T => by simp [tl]
  | s :: S, T => by
    have := tl_app S T
    rw [List.cons_append]
    show tl (S ++ T) ++ dat s = tl T ++ (tl S ++ dat s)
    rw [this, List.append_assoc]
theorem tot_app : ∀ S T : List Sl, tot (S ++ T) = tot S + tot T
  | [], T => by simp [tot]
  | s :: S, T => by
    have := tot_app S T
    rw [List.cons_append]
    show ln s + tot (S ++ T) = ln s + tot S + tot T
    omega
theorem lst_le : ∀ S : List Sl, lst S ≤ S.length
  | [] => Nat.le_refl _
  | s :: S => by
    have := lst_le S
    unfold lst
    rw [List.length_cons]
    split
    · split <;> omega
    · omega
theorem lst_snoc (s : Sl) : ∀ S : List Sl, lst (S ++ [s]) = if s.isSome then S.length + 1 else lst S
  | [] => by
    cases s <;> simp [lst]
  | u :: S => by
    have := lst_snoc s S
    rw [List.cons_append]
    unfold lst
    rw [this]
    cases h : s.isSome
    · simp
    · simp
theorem split_at {S : List Sl} {k : Nat} {s : Sl} (h : S[k]? = some s) : ∃ S1 S2, S = S1 ++ s :: S2 ∧ S1.length = k ∧ S1 = S.take k := by
  obtain ⟨hk, e⟩ := List.getElem?_eq_some_iff.1 h
  refine ⟨S.take k, S.drop (k + 1), ?_, by simp; omega, rfl⟩
  rw [← e, ← List.drop_eq_getElem_cons hk, List.take_append_drop]
theorem lst_next {S : List Sl} {k : Nat} {s : Sl} (h : S[k]? = some s) : lst (S.take (k + 1)) = if s.isSome then k + 1 else lst (S.take k) := by
  obtain ⟨hk, e⟩ := List.getElem?_eq_some_iff.1 h
  rw [List.take_succ_eq_append_getElem hk, lst_snoc, e, List.length_take, Nat.min_eq_left (by omega)]
theorem tot_next {S : List Sl} {k : Nat} {s : Sl} (h : S[k]? = some s) : tot (S.take (k + 1)) = tot (S.take k) + ln s := by
  obtain ⟨hk, e⟩ := List.getElem?_eq_some_iff.1 h
  rw [List.take_succ_eq_append_getElem hk, tot_app, e]
  simp [tot]
theorem tot_take (S : List Sl) (k : Nat) : tot (S.take k) ≤ tot S := by
  have := tot_app (S.take k) (S.drop k)
  rw [List.take_append_drop] at this; omega
/-- Where the data of slot k ends. -/
def to_ (S : List Sl) (k : Nat) : Nat := 512 - tot (S.take k)
def full (S : List Sl) (k : Nat) : Bool := match S[k]? with
  | some (some _) => true
  | _ => false
theorem full_of {S : List Sl} {k : Nat} {s : Sl} (h : S[k]? = some s) : full S k = s.isSome := by
  unfold full; rw [h]; cases s <;> rfl
theorem full_not {S : List Sl} {k : Nat} (h : S.length ≤ k) : full S k = false := by
  unfold full; rw [List.getElem?_eq_none h]
theorem full_dat {S : List Sl} {k : Nat} (h : full S k = true) : ∃ d, S[k]? = some (some d) := by
  unfold full at h
  split at h
  · rename_i d e; exact ⟨d, e⟩
  · cases h
theorem to_next {S : List Sl} {k : Nat} {s : Sl} (h : S[k]? = some s) : to_ S (k + 1) = to_ S k - ln s := by
  unfold to_; rw [tot_next h]; omega
theorem to_zero (S : List Sl) : to_ S 0 = 512 := by simp [to_, tot]
theorem to_all (S : List Sl) : to_ S S.length = 512 - tot S := by simp [to_]
theorem to_le (S : List Sl) (k : Nat) : to_ S k ≤ 512 := Nat.sub_le _ _
theorem to_down {S : List Sl} (k : Nat) : to_ S (k + 1) ≤ to_ S k := by
  rcases Nat.lt_or_ge k S.length with h | h
  · rw [to_next (List.getElem?_eq_getElem h)]; omega
  · unfold to_
    rw [List.take_of_length_le h, List.take_of_length_le (by omega)]; exact Nat.le_refl _
theorem Fit.at_ {S : List Sl} (h : Fit S) {k : Nat} {s : Sl} (hs : S[k]? = some s) : ln s ≤ 255 := h.each s (List.mem_of_getElem? hs)
theorem Fit.to_ln {S : List Sl} (h : Fit S) {k : Nat} {s : Sl} (hs : S[k]? = some s) : to_ S (k + 1) + ln s = to_ S k := by
  have h1 := tot_next hs
  have h2 := tot_take S (k + 1)
  have h3 := h.room
  unfold to_; omega
theorem mk_lt {s : Sl} (h : ln s ≤ 255) : mk s < 65536 := by
  cases s with
  | none => decide
  | some d =>
    have h2 : d.length ≤ 255 := h
    show d.length + 1 < 65536
    omega
theorem pgn_count (n : Nat) (S : List Sl) : (pgn n S)[0]? = some (hi n) ∧ (pgn n S)[1]? = some (lo n) := ⟨rfl, rfl⟩
theorem marks_at : ∀ {S : List Sl} {k : Nat} {s : Sl}, S[k]? = some s → (marks S)[2 * k]? = some (hi (mk s)) ∧ (marks S)[2 * k + 1]? = some (lo (mk s))
  | [], k, s, h => by simp at h
  | u :: S, 0, s, h => by
    simp at h; subst h
    exact ⟨rfl, rfl⟩
  | u :: S, k + 1, s, h => by
    rw [List.getElem?_cons_succ] at h
    obtain ⟨h1, h2⟩ := marks_at h
    unfold marks
    rw [show 2 * (k + 1) = 2 * k + 2 by omega]
    exact ⟨h1, h2⟩
theorem pgn_mark {n : Nat} {S : List Sl} {k : Nat} {s : Sl} (h : S[k]? = some s) : (pgn n S)[2 * (k + 1)]? = some (hi (mk s)) ∧ (pgn n S)[2 * (k + 1) + 1]? = some (lo (mk s)) := by
  obtain ⟨hk, _⟩ := List.getElem?_eq_some_iff.1 h
  obtain ⟨h1, h2⟩ := marks_at h
  have e : ∀ j, j < 2 * S.length → (pgn n S)[j + 2]? = (marks S)[j]? := fun j hj => by
    show (marks S ++ _)[j]? = _
    rw [List.getElem?_append_left (by rw [len_marks]; exact hj)]
  rw [show 2 * (k + 1) = 2 * k + 2 by omega, show 2 * k + 2 + 1 = 2 * k + 1 + 2 by omega, e _ (by omega), e _ (by omega)]
  exact ⟨h1, h2⟩

/-! ### Moves of bytes -/
theorem splice_nil {L : List UInt8} (k : Nat) : splice L k [] = L := by simp [splice]
theorem splice_mid (X Y Z W : List UInt8) {k : Nat} (hk : X.length = k) (h : W.length = Y.length) : splice (X ++ (Y ++ Z)) k W = X ++ (W ++ Z) := by
  subst hk
  unfold splice
  rw [List.take_left', List.drop_append, h]
  · simp
  · rfl
theorem parts4 (L : List UInt8) (a x y : Nat) : L = L.take a ++ ((L.drop a).take x ++ ((L.drop (a + x)).take y ++ L.drop (a + x + y))) := by
  have e1 : L.drop (a + x + y) = (L.drop (a + x)).drop y := by rw [List.drop_drop]
  have e2 : L.drop (a + x) = (L.drop a).drop x := by rw [List.drop_drop]
  rw [e1, List.take_append_drop, e2, List.take_append_drop, List.take_append_drop]
theorem splice_then (L X Y : List UInt8) {a b : Nat} (hb : b = a + X.length) (hL : a + X.length + Y.length ≤ L.length) : splice (splice L a X) b Y = splice L a (X ++ Y) := by
  subst hb
  have e := parts4 L a X.length Y.length
  have l1 : (L.take a).length = a := by rw [List.length_take]; omega
  have l2 : ((L.drop a).take X.length).length = X.length := by rw [List.length_take, List.length_drop]; omega
  have l3 : ((L.drop (a + X.length)).take Y.length).length = Y.length := by rw [List.length_take, List.length_drop]; omega
  generalize L.take a = P at *
  generalize (L.drop a).take X.length = Q at *
  generalize (L.drop (a + X.length)).take Y.length = R at *
  generalize L.drop (a + X.length + Y.length) = T at *
  subst e
  rw [splice_mid P Q (R ++ T) X l1 l2.symm]
  have e2 : P ++ (X ++ (R ++ T)) = (P ++ X) ++ (R ++ T) := by simp
  rw [e2, splice_mid (P ++ X) R T Y (by simp [l1]) l3.symm]
  have e3 : P ++ (Q ++ (R ++ T)) = P ++ ((Q ++ R) ++ T) := by simp
  rw [e3, splice_mid P (Q ++ R) T (X ++ Y) l1 (by simp [l2, l3])]
  simp
theorem splice_ahead (L X Y : List UInt8) {a b : Nat} (hb : b = a + X.length) (hL : a + X.length + Y.length ≤ L.length) : splice (splice L b Y) a X = splice L a (X ++ Y) := by
  subst hb
  have e := parts4 L a X.length Y.length
  have l1 : (L.take a).length = a := by rw [List.length_take]; omega
  have l2 : ((L.drop a).take X.length).length = X.length := by rw [List.length_take, List.length_drop]; omega
  have l3 : ((L.drop (a + X.length)).take Y.length).length = Y.length := by rw [List.length_take, List.length_drop]; omega
  generalize L.take a = P at *
  generalize (L.drop a).take X.length = Q at *
  generalize (L.drop (a + X.length)).take Y.length = R at *
  generalize L.drop (a + X.length + Y.length) = T at *
  subst e
  have e2 : P ++ (Q ++ (R ++ T)) = (P ++ Q) ++ (R ++ T) := by simp
  have e3 : (P ++ Q) ++ (R ++ T) = P ++ ((Q ++ R) ++ T) := by simp
  rw [e2, splice_mid (P ++ Q) R T Y (by simp [l1, l2]) l3.symm, e3, splice_mid P (Q ++ R) T (X ++ Y) l1 (by simp [l2, l3])]
  have e4 : P ++ Q ++ (Y ++ T) = P ++ (Q ++ (Y ++ T)) := by simp
  rw [e4, splice_mid P Q (Y ++ T) X l1 l2.symm]
  simp
theorem zs_app (a b : Nat) : zs a ++ zs b = zs (a + b) := by simp [zs]
/-- Bytes moved from the middle, what is before them cleared, other data behind them. -/
theorem lay_bytes (H X D0 D T1 : List UInt8) (z first moved to : Nat) (hf : first = H.length + z) (hto : to = first + X.length + D0.length) (hm : moved + D.length = first + D0.length) (hz : D.length ≤ z + D0.length) :
    splice (splice (splice (H ++ (zs z ++ (X ++ (D0 ++ T1)))) moved X) first (zs (max first moved - first))) (to - D.length) D = H ++ (zs (z + D0.length - D.length) ++ (X ++ (D ++ T1))) := by
  have hL : (H ++ (zs z ++ (X ++ (D0 ++ T1)))).length = first + X.length + D0.length + T1.length := by
    simp only [List.length_append, len_zs]; omega
  have hc : to - D.length = moved + X.length := by omega
  rw [hc]
  rcases Nat.le_total moved first with h | h
  · rw [Nat.max_eq_left h, Nat.sub_self]
    show splice (splice _ first []) _ D = _
    rw [splice_nil, splice_then _ X D rfl (by omega)]
    have e : H ++ (zs z ++ (X ++ (D0 ++ T1))) = (H ++ zs (z + D0.length - D.length)) ++ ((zs (D.length - D0.length) ++ (X ++ D0)) ++ T1) := by
      have : zs z = zs (z + D0.length - D.length) ++ zs (D.length - D0.length) := by rw [zs_app]; congr 1; omega
      rw [this]; simp
    rw [e, splice_mid _ _ T1 (X ++ D) (by rw [List.length_append, len_zs]; omega) (by simp only [List.length_append, len_zs]; omega)]
    simp
  · rw [Nat.max_eq_right h]
    have hz2 : (zs (moved - first)).length = moved - first := len_zs _
    rw [splice_ahead _ (zs (moved - first)) X (by omega) (by omega), splice_then _ _ D (by rw [List.length_append]; omega) (by rw [List.length_append]; omega)]
    have e : H ++ (zs z ++ (X ++ (D0 ++ T1))) = (H ++ zs z) ++ ((X ++ D0) ++ T1) := by simp
    rw [e, splice_mid _ _ T1 _ (by rw [List.length_append, len_zs]; omega) (by simp only [List.length_append, len_zs]; omega)]
    have : zs (z + D0.length - D.length) = zs z ++ zs (moved - first) := by rw [zs_app]; congr 1; omega
    rw [this]; simp
theorem put2_mid (X Y : List UInt8) (m n : Nat) {k : Nat} (hk : X.length = k) : put2 (X ++ (two m ++ Y)) k n = X ++ (two n ++ Y) := by
  subst hk
  unfold put2 two
  rw [List.set_append_right _ _ (Nat.le_refl _), Nat.sub_self, List.set_append_right _ _ (by omega), Nat.add_sub_cancel_left]
  rfl
theorem put2_head (Y : List UInt8) (m n : Nat) : put2 (two m ++ Y) 0 n = two n ++ Y := rfl
theorem put2_len (L : List UInt8) (k n : Nat) : (put2 L k n).length = L.length := by simp [put2]
theorem pgn_parts (n : Nat) (S1 : List Sl) (s : Sl) (S2 : List Sl) : pgn n (S1 ++ s :: S2) = (two n ++ (marks S1 ++ (two (mk s) ++ marks S2))) ++ (zs (510 - 2 * (S1.length + 1 + S2.length) - (tot S1 + ln s + tot S2)) ++ (tl S2 ++ (dat s ++ tl S1))) := by
  unfold pgn
  rw [marks_app, tl_app, tot_app]
  show two n ++ ((marks S1 ++ (two (mk s) ++ marks S2)) ++ (zs (510 - 2 * (S1 ++ s :: S2).length - (tot S1 + (ln s + tot S2))) ++ ((tl S2 ++ dat s) ++ tl S1))) = _
  rw [List.length_append, List.length_cons, show S1.length + (S2.length + 1) = S1.length + 1 + S2.length by omega, show tot S1 + (ln s + tot S2) = tot S1 + ln s + tot S2 by omega]
  simp
/-- What lay makes of a page. -/
theorem lay_page (n m : Nat) (S1 S2 : List Sl) (s : Sl) (d : List UInt8) (first moved to : Nat) (hr : 2 + 2 * (S1.length + 1 + S2.length) + (tot S1 + ln s + tot S2) ≤ 512) (hr' : 2 + 2 * (S1.length + 1 + S2.length) + (tot S1 + d.length + tot S2) ≤ 512)
    (hf : first = 512 - (tot S1 + ln s + tot S2)) (hto : to = 512 - tot S1) (hm : moved + d.length = first + ln s) :
    put2 (put2 (splice (splice (splice (pgn n (S1 ++ s :: S2)) moved (tl S2)) first (zs (max first moved - first))) (to - d.length) d) (2 * (S1.length + 1)) (d.length + 1)) 0 m = pgn m (S1 ++ some d :: S2) := by
  rw [pgn_parts, pgn_parts, lay_bytes _ (tl S2) (dat s) d (tl S1) _ first moved to (by simp only [List.length_append, len_two, len_marks]; omega) (by rw [len_tl]; show _ = _ + ln s; omega) (by show _ = _ + ln s; omega) (by show _ ≤ _ + ln s; omega)]
  have e : 510 - 2 * (S1.length + 1 + S2.length) - (tot S1 + ln s + tot S2) + (dat s).length - d.length = 510 - 2 * (S1.length + 1 + S2.length) - (tot S1 + ln (some d) + tot S2) := by
    show _ + ln s - _ = 510 - 2 * (S1.length + 1 + S2.length) - (tot S1 + d.length + tot S2)
    omega
  rw [e]
  show _ = (two m ++ (marks S1 ++ (two (d.length + 1) ++ marks S2))) ++ (zs (510 - 2 * (S1.length + 1 + S2.length) - (tot S1 + ln (some d) + tot S2)) ++ (tl S2 ++ (d ++ tl S1)))
  generalize zs (510 - 2 * (S1.length + 1 + S2.length) - (tot S1 + ln (some d) + tot S2)) ++ (tl S2 ++ (d ++ tl S1)) = R
  have e2 : two n ++ (marks S1 ++ (two (mk s) ++ marks S2)) ++ R = (two n ++ marks S1) ++ (two (mk s) ++ (marks S2 ++ R)) := by simp
  have e3 : two n ++ marks S1 ++ (two (d.length + 1) ++ (marks S2 ++ R)) = two n ++ (marks S1 ++ (two (d.length + 1) ++ (marks S2 ++ R))) := by simp
  rw [e2, put2_mid _ _ _ _ (by rw [List.length_append, len_two, len_marks]; omega), e3, put2_head]
  simp
/-- A page that tells one slot fewer than it has, the last one empty. -/
theorem pgn_more (n : Nat) (S : List Sl) (h : 2 + 2 * S.length + tot S + 2 ≤ 512) : pgn n (S ++ [none]) = pgn n S := by
  unfold pgn
  rw [marks_app, tl_app, tot_app]
  show two n ++ ((marks S ++ [hi 0, lo 0]) ++ (zs (510 - 2 * (S ++ [none]).length - (tot S + 0)) ++ ([] ++ tl S))) = _
  have e : zs (510 - 2 * S.length - tot S) = [hi 0, lo 0] ++ zs (510 - 2 * (S.length + 1) - tot S) := by
    rw [show 510 - 2 * S.length - tot S = 2 + (510 - 2 * (S.length + 1) - tot S) by omega, ← zs_app]; rfl
  rw [e, List.length_append]
  simp
theorem pgn_trim (n : Nat) : ∀ (k : Nat) (S : List Sl), S.length ≤ k → 2 + 2 * S.length + tot S ≤ 512 → pgn n (S.take (lst S)) = pgn n S := by
  intro k
  induction k with
  | zero =>
    intro S hk _
    rw [List.eq_nil_of_length_eq_zero (by omega : S.length = 0)]; rfl
  | succ k ih =>
    intro S hk h
    rcases List.eq_nil_or_concat S with rfl | ⟨T, s, rfl⟩
    · rfl
    · rw [List.concat_eq_append] at *
      rw [lst_snoc]
      cases s with
      | some d => rw [if_pos (show (some d).isSome = true from rfl), List.take_of_length_le (by simp)]
      | none =>
        rw [tot_app] at h
        simp only [List.length_append, List.length_cons, List.length_nil] at h hk
        have h0 : tot [(none : Sl)] = 0 := rfl
        rw [if_neg (by simp), List.take_append_of_le_length (lst_le T), ih T (by omega) (by omega), pgn_more _ _ (by omega)]
theorem lst_take : ∀ S : List Sl, lst (S.take (lst S)) = lst S
  | [] => rfl
  | s :: S => by
    have h := lst_take S
    by_cases h0 : lst S = 0
    · have e : lst (s :: S) = if s.isSome then 1 else 0 := by
        conv => lhs; unfold lst
        rw [if_pos h0]
      rw [e]
      cases s <;> simp [lst]
    · have e : lst (s :: S) = lst S + 1 := by
        conv => lhs; unfold lst
        rw [if_neg h0]
      rw [e, List.take_succ_cons]
      conv => lhs; unfold lst
      rw [h, if_neg h0]
theorem tot_le (S : List Sl) (k : Nat) : tot (S.take k) ≤ tot S := tot_take S k
theorem Fit.take {S : List Sl} (h : Fit S) (k : Nat) : Fit (S.take k) := by
  refine ⟨?_, fun s hs => h.each s (List.mem_of_mem_take hs)⟩
  have h1 := h.room
  have h2 := tot_take S k
  rw [List.length_take]; omega
theorem Fit.trim {S : List Sl} (h : Fit S) : Ok (S.take (lst S)) := by
  refine ⟨h.take _, ?_⟩
  rw [lst_take, List.length_take]
  have := lst_le S
  omega
theorem Ok.nil : Ok [] := ⟨⟨by decide, by simp⟩, rfl⟩
end Go.Proofs.Ythcilmlaoddckaa.Pg

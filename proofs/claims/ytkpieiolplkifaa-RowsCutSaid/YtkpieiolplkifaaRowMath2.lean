/- Rows as bytes, in plain words: lists of values, rows; what comes back. -/
import Derived.Test.YtkpieiolplkifaaRowMath
namespace Go.Proofs.Ytkpieiolplkifaa.Rw
open Go.Proofs.Ytkpieiolplkifaa.Right

/-- The sum of the values' kinds. -/
def kin : List Vl → Nat
  | [] => 0
  | v :: r => v.k.toNat + 4 * kin r
def valsB (vs : List Vl) : List UInt8 := vs.flatMap valB
theorem good_k {v : Vl} (h : Good v) : 0 ≤ v.k ∧ v.k < 4 := by
  rcases ok_cases h.1 with ⟨hk, _⟩ | ⟨hk, _⟩ | ⟨hk, _⟩ | ⟨hk, _⟩ <;> omega
theorem kin_lt : ∀ {vs : List Vl}, (∀ v ∈ vs, Good v) → kin vs < 4 ^ vs.length
  | [], _ => by simp [kin]
  | v :: r, h => by
    have h1 := kin_lt (vs := r) fun u hu => h u (List.mem_cons_of_mem _ hu)
    have h2 := good_k (h v (by simp))
    rw [kin, List.length_cons, Nat.pow_succ]
    omega
/-- So many values, of these kinds. -/
def rdVs : Nat → Nat → List UInt8 → Got (List Vl)
  | 0, _, l => .ok [] l
  | m + 1, q, l => (rdV (q % 4) l).then fun v r => (rdVs m (q / 4) r).then fun vs r' => .ok (v :: vs) r'
theorem kin_cons {v : Vl} {r : List Vl} (h : Good v) : kin (v :: r) % 4 = v.k.toNat ∧ kin (v :: r) / 4 = kin r := by
  have := good_k h
  rw [kin]; omega
theorem rdVs_valsB : ∀ {vs : List Vl}, (∀ v ∈ vs, Good v) → ∀ r, rdVs vs.length (kin vs) (valsB vs ++ r) = .ok vs r
  | [], _, r => rfl
  | v :: t, h, r => by
    obtain ⟨h1, h2⟩ := kin_cons (r := t) (h v (by simp))
    rw [List.length_cons, rdVs, h1, h2, valsB, List.flatMap_cons, List.append_assoc, rdV_valB (h v (by simp))]
    simp only [Got.then]
    have := rdVs_valsB (vs := t) (fun u hu => h u (List.mem_cons_of_mem _ hu)) r
    rw [valsB] at this
    rw [this]
theorem rdVs_back : ∀ {m q : Nat} {l : List UInt8} {vs : List Vl} {r : List UInt8}, rdVs m q l = .ok vs r → vs.length = m ∧ (∀ v ∈ vs, Good v) ∧ l = valsB vs ++ r ∧ q % 4 ^ m = kin vs
  | 0, q, l, vs, r, h => by
    rw [rdVs] at h
    injection h with e1 e2
    subst e1 e2
    refine ⟨rfl, by simp, rfl, by simp [kin]; omega⟩
  | m + 1, q, l, vs, r, h => by
    rw [rdVs] at h
    match h1 : rdV (q % 4) l, h with
    | .bad e, h => simp [Got.then] at h
    | .ok v r1, h =>
      simp only [Got.then] at h
      match h2 : rdVs m (q / 4) r1, h with
      | .bad e, h => simp at h
      | .ok us r2, h =>
        simp only at h
        injection h with e1 e2
        subst e1 e2
        obtain ⟨a1, a2, a3⟩ := rdV_back (by omega) h1
        obtain ⟨b1, b2, b3, b4⟩ := rdVs_back h2
        refine ⟨by rw [List.length_cons, b1], ?_, by rw [a3, b3, valsB, valsB, List.flatMap_cons, List.append_assoc], ?_⟩
        · intro u hu
          rcases List.mem_cons.1 hu with e | e
          · subst e; exact a2
          · exact b2 u e
        · rw [kin, ← b4, a1, Nat.pow_succ, Nat.mul_comm, Nat.mod_mul]
          simp
          omega
theorem rdVs_cut : ∀ {vs : List Vl}, (∀ v ∈ vs, Good v) → ∀ {j : Nat}, j < (valsB vs).length → rdVs vs.length (kin vs) ((valsB vs).take j) = .bad 13
  | [], _, j, hj => by simp [valsB] at hj
  | v :: t, h, j, hj => by
    obtain ⟨h1, h2⟩ := kin_cons (r := t) (h v (by simp))
    have hv := h v (by simp)
    rw [valsB, List.flatMap_cons] at hj ⊢
    rw [List.length_cons, rdVs, h1, h2]
    by_cases hlt : j < (valB v).length
    · rw [List.take_append_of_le_length (by omega), rdV_cut hv hlt]; rfl
    · rw [List.take_append, List.take_of_length_le (by omega), rdV_valB hv]
      simp only [Got.then]
      have := rdVs_cut (vs := t) (fun u hu => h u (List.mem_cons_of_mem _ hu)) (j := j - (valB v).length) (by rw [List.length_append] at hj; rw [valsB]; omega)
      rw [valsB] at this
      rw [this]
theorem rdVs_err : ∀ {m q : Nat} {l : List UInt8} {e : Int}, rdVs m q l = .bad e → e = 12 ∨ e = 13
  | 0, q, l, e, h => by simp [rdVs] at h
  | m + 1, q, l, e, h => by
    rw [rdVs] at h
    match h1 : rdV (q % 4) l, h with
    | .bad e', h =>
      simp only [Got.then] at h
      injection h with h
      subst h
      exact rdV_err h1
    | .ok v r1, h =>
      simp only [Got.then] at h
      match h2 : rdVs m (q / 4) r1, h with
      | .bad e', h =>
        simp only at h
        injection h with h
        subst h
        exact rdVs_err h2
      | .ok us r2, h => simp at h

/-- A row's number. -/
def rdN (l : List UInt8) : Got Int := (rdS 0 l).then fun n r => if n < 9223372036854775808 then .ok n r else .bad 12
def rdC (l : List UInt8) : Got Nat := (rdB l).then fun n r => if 6 < n then .bad 12 else .ok n r
def rdK (m : Nat) (l : List UInt8) : Got Nat := (rdB l).then fun a r => (rdB r).then fun b r' => if a + 256 * b < 4 ^ m then .ok (a + 256 * b) r' else .bad 12
def rdE (l : List UInt8) : Got Unit := match l with
  | [] => .ok () []
  | _ :: _ => .bad 14
/-- A row, by the document. -/
def getR (b : List UInt8) : Got (Int × List Vl) :=
  (rdN b).then fun n r => (rdC r).then fun m r1 => (rdK m r1).then fun q r2 => (rdVs m q r2).then fun vs r3 => (rdE r3).then fun _ r4 => .ok (n, vs) r4
/-- The bytes of a row. -/
def rowB (n : Int) (vs : List Vl) : List UInt8 := sm n.toNat ++ (UInt8.ofNat vs.length :: UInt8.ofNat (kin vs % 256) :: UInt8.ofNat (kin vs / 256) :: valsB vs)
/-- A row that may be. -/
def Fine (n : Int) (vs : List Vl) : Prop := 0 ≤ n ∧ n ≤ 9223372036854775807 ∧ vs.length ≤ 6 ∧ ∀ v ∈ vs, Good v
theorem then_ok {α β : Type} (a : α) (r : List UInt8) (f : α → List UInt8 → Got β) : (Got.ok a r).then f = f a r := rfl
theorem then_bad {α β : Type} (e : Int) (f : α → List UInt8 → Got β) : (Got.bad e).then f = .bad e := rfl
theorem pow_le {m : Nat} (h : m ≤ 6) : 4 ^ m ≤ 4096 := Nat.le_trans (Nat.pow_le_pow_right (by decide) h) (by decide)
theorem rdN_sm {n : Int} (h0 : 0 ≤ n) (h1 : n ≤ 9223372036854775807) (r : List UInt8) : rdN (sm n.toNat ++ r) = .ok n r := by
  unfold rdN
  rw [rdS_sm _ 0 (by decide) (by rw [lim_0]; omega) (fun h => absurd h (by decide)), then_ok, if_pos (by omega)]
  congr 1
  omega
theorem rdC_cons {m : Nat} (h : m ≤ 6) (r : List UInt8) : rdC (UInt8.ofNat m :: r) = .ok m r := by
  unfold rdC rdB
  simp only
  rw [then_ok, ofNat_small (by omega), if_neg (by omega)]
theorem rdK_cons {m q : Nat} (h : m ≤ 6) (hq : q < 4 ^ m) (r : List UInt8) : rdK m (UInt8.ofNat (q % 256) :: UInt8.ofNat (q / 256) :: r) = .ok q r := by
  have := pow_le h
  unfold rdK rdB
  simp only
  rw [then_ok]
  simp only
  rw [then_ok, ofNat_small (by omega), ofNat_small (by omega), if_pos (by omega)]
  congr 1
  omega
/-- A row comes back from its bytes; with bytes behind them there is a rest. -/
theorem getR_app {n : Int} {vs : List Vl} (h : Fine n vs) (t : List UInt8) : getR (rowB n vs ++ t) = (rdE t).then fun _ r4 => .ok (n, vs) r4 := by
  obtain ⟨h0, h1, h6, hg⟩ := h
  have hk := kin_lt hg
  unfold getR rowB
  rw [List.append_assoc, rdN_sm h0 h1, then_ok, List.cons_append, rdC_cons h6, then_ok, List.cons_append, List.cons_append, rdK_cons h6 hk, then_ok, rdVs_valsB hg, then_ok]
theorem getR_rowB {n : Int} {vs : List Vl} (h : Fine n vs) : getR (rowB n vs) = .ok (n, vs) [] := by
  have := getR_app h []
  rw [List.append_nil] at this
  rw [this]; rfl
theorem getR_more {n : Int} {vs : List Vl} (h : Fine n vs) (c : UInt8) : getR (rowB n vs ++ [c]) = .bad 14 := by rw [getR_app h]; rfl
theorem getR_cut {n : Int} {vs : List Vl} (h : Fine n vs) {k : Nat} (hk : k < (rowB n vs).length) : getR ((rowB n vs).take k) = .bad 13 := by
  obtain ⟨h0, h1, h6, hg⟩ := h
  have hq := kin_lt hg
  unfold getR
  unfold rowB at hk ⊢
  by_cases hlt : k < (sm n.toNat).length
  · rw [List.take_append_of_le_length (by omega)]
    unfold rdN
    rw [rdS_cut _ 0 (by decide) (by rw [lim_0]; omega) (fun h => absurd h (by decide)) k hlt]
    rfl
  · obtain ⟨j, rfl⟩ : ∃ j, k = (sm n.toNat).length + j := ⟨k - (sm n.toNat).length, by omega⟩
    rw [List.length_append] at hk
    have hj : j < (UInt8.ofNat vs.length :: UInt8.ofNat (kin vs % 256) :: UInt8.ofNat (kin vs / 256) :: valsB vs).length := by omega
    rw [List.take_append, List.take_of_length_le (by omega), rdN_sm h0 h1, then_ok, Nat.add_sub_cancel_left]
    match j, hj with
    | 0, _ => rfl
    | 1, _ => rw [List.take_succ_cons, rdC_cons h6, then_ok]; rfl
    | 2, _ => rw [List.take_succ_cons, rdC_cons h6, then_ok]; rfl
    | j + 3, hj =>
      rw [List.length_cons, List.length_cons, List.length_cons] at hj
      rw [List.take_succ_cons, rdC_cons h6, then_ok, List.take_succ_cons, List.take_succ_cons, rdK_cons h6 hq, then_ok, rdVs_cut hg (by omega)]
      rfl
theorem getR_back {b : List UInt8} {n : Int} {vs : List Vl} {r : List UInt8} (h : getR b = .ok (n, vs) r) : Fine n vs ∧ b = rowB n vs := by
  unfold getR at h
  match h1 : rdN b, h with
  | .bad e, h => simp [Got.then] at h
  | .ok x r1, h =>
    rw [then_ok] at h
    match h2 : rdC r1, h with
    | .bad e, h => simp [Got.then] at h
    | .ok m r2, h =>
      rw [then_ok] at h
      match h3 : rdK m r2, h with
      | .bad e, h => simp [Got.then] at h
      | .ok q r3, h =>
        rw [then_ok] at h
        match h4 : rdVs m q r3, h with
        | .bad e, h => simp [Got.then] at h
        | .ok us r4, h =>
          rw [then_ok] at h
          match r4, h with
          | _ :: _, h => simp [rdE, Got.then] at h
          | [], h =>
            simp only [rdE, Got.then] at h
            injection h with e1 e2
            injection e1 with e1 e3
            subst e1 e2 e3
            obtain ⟨c1, c2, c3, c4⟩ := rdVs_back h4
            have a : 0 ≤ x ∧ x ≤ 9223372036854775807 ∧ b = sm x.toNat ++ r1 := by
              unfold rdN at h1
              match h5 : rdS 0 b, h1 with
              | .bad e, h1 => simp [Got.then] at h1
              | .ok y r5, h1 =>
                rw [then_ok] at h1
                split at h1
                · injection h1 with e1 e2
                  subst e1 e2
                  exact ⟨by omega, by omega, by rw [Int.toNat_natCast]; exact (rdS_back b 0 y r5 (by decide) h5).1⟩
                · cases h1
            have b2 : m ≤ 6 ∧ r1 = UInt8.ofNat m :: r2 := by
              unfold rdC rdB at h2
              match r1, h2 with
              | [], h2 => simp [Got.then] at h2
              | c :: t, h2 =>
                simp only [Got.then] at h2
                split at h2
                · cases h2
                · injection h2 with e1 e2
                  subst e1 e2
                  exact ⟨by omega, by rw [u8_back]⟩
            have b3 : q < 4 ^ m ∧ r2 = UInt8.ofNat (q % 256) :: UInt8.ofNat (q / 256) :: r3 := by
              unfold rdK rdB at h3
              match r2, h3 with
              | [], h3 => simp [Got.then] at h3
              | [c], h3 => simp [Got.then] at h3
              | c :: d :: t, h3 =>
                simp only [Got.then] at h3
                split at h3
                · rename_i hlt
                  injection h3 with e1 e2
                  subst e1 e2
                  have hc := c.toNat_lt
                  have hd := d.toNat_lt
                  refine ⟨hlt, ?_⟩
                  rw [show (c.toNat + 256 * d.toNat) % 256 = c.toNat by omega, show (c.toNat + 256 * d.toNat) / 256 = d.toNat by omega, u8_back, u8_back]
                · cases h3
            have e5 : q = kin us := by rw [← c4, Nat.mod_eq_of_lt b3.1]
            refine ⟨⟨a.1, a.2.1, by omega, c2⟩, ?_⟩
            rw [a.2.2, b2.2, b3.2, c3, List.append_nil, rowB, c1, e5]
theorem row_inj {n n' : Int} {vs vs' : List Vl} (h : Fine n vs) (h' : Fine n' vs') (e : rowB n vs = rowB n' vs') : n = n' ∧ vs = vs' := by
  have h1 := getR_rowB h
  rw [e, getR_rowB h'] at h1
  injection h1 with e1 _
  injection e1 with e1 e2
  exact ⟨e1.symm, e2.symm⟩

/-- The error of a row, and its bytes. -/
def putE (n : Int) (vs : List Vl) : Int := if 6 < vs.length then 3 else if n < 0 ∨ vs.all Vl.ok = false then 2 else 0
def putB (n : Int) (vs : List Vl) : List UInt8 := if putE n vs = 0 then rowB n vs else []
end Go.Proofs.Ytkpieiolplkifaa.Rw

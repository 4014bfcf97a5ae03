/- The law's own list of truths: a new row that reads as the numbers; and the truth of a value. -/
import Derived.Test.YtfonagepikebkaaTruthLists
import Derived.OwnWalk
namespace Go.Proofs.Ytfonagepikebkaa.Truth
open Go.RowKit Go.Proofs.Ytfonagepikebkaa.Mem
set_option linter.unusedVariables false

theorem info_truth : (Try.prog.info? 24).map (fun i => (i.zero, i.size, i.bytes)) = some (some (.int .i64 0), 1, 8) := by kernel_rfl
theorem vals_snoc {xs : List Int} {k : Nat} {x : Int} (h : xs[k]? = some x) : (xs.map (Value.int .i64)).take k ++ [.int .i64 x] = (xs.map (Value.int .i64)).take (k + 1) := by
  rw [List.take_add_one, List.getElem?_map, h]; rfl
/-- What the call owns, and that below its first block nothing has turned. -/
def Made (B : Nat) (w : World) (v : Value) (n : Nat) (us : List Value) (w' : World) : Prop :=
  w'.ownsRow B 24 1 v n us ∧ Below B w w'
theorem Made.start (w : World) : Made w.heap.size w (.slice none 0 0) 0 [] w := ⟨World.ownsRow_nil _ _ _ _, Below.refl _ _⟩
theorem Made.step {B : Nat} {w wr w1 : World} {v v' : Value} {n : Nat} {us : List Value} {x : Value} {o : Obj} (hB : B ≤ wr.heap.size) (h : Made B w v n us wr)
    (h1 : w1.ownsRow B 24 1 v' (n + 1) (us ++ [x])) (hg : (wr.alloc o).grownBy w1 v.ownBlock) : Made B w v' (n + 1) (us ++ [x]) w1 :=
  ⟨h1, (h.2.alloc hB o).grown hg (by simp; omega) (fun j hj => (h.1.lt j hj).1)⟩

set_option maxHeartbeats 400000 in
theorem own_any (A : Option Addr) (n c : Nat) (xs : List Int) (w : World) (hn : n ≤ xs.length) (hn' : xs.length ≤ n) (hm : n ≤ 500) (hr : Row w w.heap.size A (xs.map (.int .i64))) :
    Calls Try.prog 9 #[.slice A n c] w fun e w' => ∃ v, e = .returned v ∧ Made w.heap.size w v n (xs.map (.int .i64)) w' := by
  obtain ⟨i0, hi, hz0, hz1, hz2⟩ := info_parts info_truth
  have HR := Lib.hid hr
  clear hr
  go_enter Try.func9, Try.ntmps9
  go_wp2
  go_loopw [3, 4] (fun v i wr => ∃ k : Nat, k ≤ n ∧ i = .int .i64 k ∧ Made w.heap.size w v k ((xs.map (.int .i64)).take k) wr) (fun _ i _ => n - (intOf i).toNat)
  case atStart => exact ⟨0, Nat.zero_le _, rfl, Made.start w⟩
  case round =>
    obtain ⟨k, hk, rfl, HM⟩ := hrel
    by_cases hlt : k < n
    · obtain ⟨b, o, x, rfl, hb, hx, hc0⟩ := HR.out.int (k := k) (by omega)
      have hc := (HM.2.cell (p := ⟨b, o + k, none⟩) hb).trans hc0
      have HX := Lib.hid hx
      have hsz := HM.2.size
      clear hx hc0
      go_wp2_with (at_builtin; refine wpList_append_own _ rfl _ _ 26 rfl w.heap.size 24 i0 (.int .i64 0) 1 8 Try.underlying26 hi hz0 hz1 hz2 rfl (by decide) _ _ _ rfl (HM.1.alloc _) ⟨_, 0, none⟩ 1 1 [.int .i64 x] rfl rfl ?c1 ?c2 ?c3 ?c4 ?c5 ?_)
      case c1 =>
        intro j u hj
        match j, hj with
        | 0, hj => simp at hj; subst hj; simp [Addr.add]
      case c2 => intro u hu; simp at hu; subst hu; rfl
      case c3 => unfold maxLen; omega
      case c4 => omega
      case c5 => simp; omega
      intro v' w1 hown' hgrow _
      have R := HM.step hsz hown' hgrow
      have HR2 := Lib.hid R
      clear hown' hgrow R
      go_wp2
      go_roundw
      case rel => exact ⟨k + 1, by omega, by go_num, by have := HR2.out; rwa [vals_snoc HX.out] at this⟩
      case measure => simp [intOf]; omega
    · go_wp2
      go_ret
      have hk2 : k = n := by omega
      subst hk2
      exact ⟨_, rfl, by have := HM; rwa [List.take_of_length_le (by simp; omega)] at this⟩

/-- What the call handed back reads as us; old memory stands. -/
def Listed (w : World) (n : Nat) (us : List Value) (e : Ending) (w' : World) : Prop :=
  ∃ A c, e = .returned (.slice A n c) ∧ (A = none → c = 0) ∧ w'.ownsRow w.heap.size 24 1 (.slice A n c) n us ∧ Row w' w'.heap.size A us ∧ Below w.heap.size w w'
theorem Made.listed {w : World} {v : Value} {n : Nat} {us : List Value} {w' : World} (h : Made w.heap.size w v n us w') : Listed w n us (.returned v) w' := by
  obtain ⟨A, c, rfl, hA, hr⟩ := Row.form h.1
  exact ⟨A, c, rfl, hA, h.1, hr, h.2⟩
theorem own_list (A : Option Addr) (n c : Nat) (xs : List Int) (w : World) (hn : n ≤ xs.length) (hn' : xs.length ≤ n) (hm : n ≤ 500) (hr : Row w w.heap.size A (xs.map (.int .i64))) :
    Calls Try.prog 9 #[.slice A n c] w (Listed w n (xs.map (.int .i64))) :=
  (own_any A n c xs w hn hn' hm hr).mono fun _ _ ⟨_, he, h⟩ => he ▸ h.listed
end Go.Proofs.Ytfonagepikebkaa.Truth

import Derived.Test.YtlkmhdbmcfblkaaGreatDoorRights
import Derived.OpenShut
import Derived.ChangeOld
import Derived.HandedShaped
import Derived.ProofKit
import Derived.Shelf.Vars
import Derived.Stop.Joined
import Derived.Test.YtlkmhdbmcfblkaaGreatDoorMemListed
import Derived.Test.YtlkmhdbmcfblkaaGreatDoorExWalkTakes
/- A tree that came in as an argument. -/
namespace Go.Proofs.YtlkmhdbmcfblkaaGreatDoor.Ep
open Go.ChangeShapes Go.WideShapes Go.ChangeAt Go.RowKit Go.Proofs.YtlkmhdbmcfblkaaGreatDoor.Mem Go.Proofs.YtlkmhdbmcfblkaaGreatDoor.Right
set_option linter.unusedVariables false

/-- How this program has expressions. -/
theorem hasEx : HasEx Tryz.prog 32 29 30 where
  ex := ⟨_, _, _, _, _, Tryz.underlying32, ⟨rfl, rfl, rfl, rfl, rfl⟩, rfl, rfl, ⟨Tryz.underlying3, by kernel_rfl⟩, ⟨Tryz.underlying3, by kernel_rfl⟩, ⟨Tryz.underlying9, by kernel_rfl⟩⟩
  val := ⟨_, _, _, Tryz.underlying29, ⟨rfl, rfl, rfl⟩, ⟨Tryz.underlying3, by kernel_rfl⟩, ⟨Tryz.underlying3, by kernel_rfl⟩, ⟨Tryz.underlying9, by kernel_rfl⟩⟩
  list := Tryz.underlying30
  size := ⟨by kernel_rfl, by kernel_rfl, by kernel_rfl⟩
section
variable {H : Type} {enc : TypeId × Value → H} {W : World}
set_option maxRecDepth 100000 in
theorem open_exv {r : Reach} {b0 : Nat} {v : Value} {d : DataW H} {p : List MemPlace} (hv : Value.okWide Tryz.prog W r b0 32 v) (h : DataW.Trod enc Tryz.prog W 0 (fun _ => true) true 32 v d p) :
    ∃ cs e, v = .agg (List.toArray cs) ∧ ExAt W W.heap.size e cs ∧ Fine e := by
  obtain ⟨cs, rfl, hsz⟩ := okWide_struct Tryz.underlying32 hv
  obtain ⟨fuel, hf⟩ := h
  obtain ⟨e, h1, h2⟩ := open_ex hasEx fuel cs.toList _ hf
  exact ⟨cs.toList, e, rfl, h1, h2⟩
end
end Go.Proofs.YtlkmhdbmcfblkaaGreatDoor.Ep
/- A row that lists package-level variables, and whose walk reads another one: the wrap hands on what the list says, and the world's shape. -/
namespace Go.Proofs.YtlkmhdbmcfblkaaGreatDoor.Mem
open Go.RowKit
variable {H : Type} {enc : TypeId × Value → H}

/-- What the library's own variable holds: some number. -/
theorem some_max {W : World} (h : W.ShapedOpen Tryz.prog) : ∃ m, W.cell? ⟨2, 0, none⟩ = some (.int .i64 m) :=
  cell_of_shapedOpen_int (t := 3) (zero := #[.int .i64 0]) h (of_decide_eq_true (by kernel_rfl)) (by kernel_rfl) rfl (by kernel_rfl) (by kernel_rfl) Tryz.underlying3
end Go.Proofs.YtlkmhdbmcfblkaaGreatDoor.Mem
/- The law of Take: tokens that came in as an argument; what it asks of the listed variables. -/
namespace Go.Proofs.YtlkmhdbmcfblkaaGreatDoor.Ep
open Go.ChangeShapes Go.WideShapes Go.ChangeAt Go.RowKit Go.Proofs.YtlkmhdbmcfblkaaGreatDoor.Mem Go.Proofs.YtlkmhdbmcfblkaaGreatDoor.Right Go.Proofs.YtlkmhdbmcfblkaaGreatDoor.Lx
set_option linter.unusedVariables false

theorem hasB : HasB Tryz.prog 3 9 4 42 where
  int := Tryz.underlying3
  str := Tryz.underlying9
  bool := Tryz.underlying4
  strs := ⟨Tryz.underlying42, by kernel_rfl⟩
theorem isLT : IsRec Tryz.prog 26 3 [(0, 1, 3), (1, 1, 9), (2, 1, 3)] :=
  ⟨_, Tryz.underlying26, by kernel_rfl, by kernel_rfl⟩
section
variable {H : Type} {enc : TypeId × Value → H} {W : World}
set_option maxRecDepth 100000 in
theorem open_toksv {r : Reach} {b0 : Nat} {v : Value} {d : DataW H} {p : List MemPlace} (hv : Value.okWide Tryz.prog W r b0 22 v) (h : DataW.Trod enc Tryz.prog W 0 (fun _ => true) true 22 v d p) :
    ∃ A c l, v = .slice A l.length c ∧ ToksIn W (fun b => b < W.heap.size) A l ∧ (A = none → c = 0) ∧ l.length ≤ c ∧ c ≤ maxLen ∧ ∀ x ∈ l, fTo x := by
  obtain ⟨A, n, c, rfl⟩ := okWide_slice Tryz.underlying22 hv
  obtain ⟨fuel, hf⟩ := h
  obtain ⟨A', c', l, e, h1, h2, h3, h4, h5⟩ := open_toks hasB isLT ⟨Tryz.underlying22, by kernel_rfl⟩ fuel _ _ hf
  simp [Value.cells] at e
  obtain ⟨rfl, rfl, rfl⟩ := e
  exact ⟨_, _, l, rfl, h4, h3, h1, h2, h5⟩
end
theorem signs_takes {W : World} (h : laidMetH Tryz.prog Rows.exparseTakesRow.laid W) (hsh : W.ShapedOpen Tryz.prog) : Wd W :=
  ⟨esg_of_laid h (by kernel_rfl) (by repeat (first | exact List.Mem.head _ | apply List.Mem.tail)), signs_of_laid h (by kernel_rfl) (by repeat (first | exact List.Mem.head _ | apply List.Mem.tail)), some_max hsh⟩
end Go.Proofs.YtlkmhdbmcfblkaaGreatDoor.Ep

/- Words of my own: 'make([]byte, n)', n known as a variable. No program is named here. -/
import Derived.Test.YtpfcopdckjedfaaDoorRegion
import Derived.Laws.OwnMore
namespace Go.Proofs.YtpfcopdckjedfaaDoor
open Go.RowKit

theorem make_u8 {P : Program} (t E : TypeId) (ht : P.underlying t = some (.slice E)) (hi : (P.info? E).map (fun i => (i.zero, i.size, i.bytes)) = some (some (.int .u8 0), 1, 1)) (n : Nat) (hn : n ≤ 65536) (w : World) :
    (Instr.makeSlice t (.int .i64 (n : Int)) (.int .i64 (n : Int))).run P w = .ok (.slice (some ⟨w.heap.size, 0, none⟩) n n) (w.alloc (.cells ((List.replicate n (0 : Int)).map (Value.int .u8)).toArray E)) := by
  obtain ⟨i, hi0, hz, hsz, hby⟩ := info_parts hi
  have := run_make (P := P) w t E i (.int .u8 0) ht hi0 hz .i64 .i64 (n : Int) n (by omega) (Int.le_refl _) (by rw [hby]; omega) (by omega)
  rw [this]
  have e : madeCells (Value.int .u8 0).cells ((n : Int).toNat * i.size) = ((List.replicate n (0 : Int)).map (Value.int .u8)).toArray := by
    apply Array.ext'
    rw [show (Value.int IntKind.u8 0).cells = #[Value.int .u8 0] from rfl, toList_madeCells_one, hsz]
    simp
  rw [e]
  simp
theorem Rd.zeros (w : World) (E : TypeId) (n : Nat) (hn : n ≤ 65536) : Rd .u8 (w.alloc (.cells ((List.replicate n (0 : Int)).map (Value.int .u8)).toArray E)) (some ⟨w.heap.size, 0, none⟩) n n (List.replicate n 0) := by
  have := Rd.builtAll w .u8 E (0, 0) (List.replicate n 0) (by simp; unfold maxLen; omega) (fun x hx => by simp at hx; rw [hx.2]; decide)
  simpa using this
end Go.Proofs.YtpfcopdckjedfaaDoor

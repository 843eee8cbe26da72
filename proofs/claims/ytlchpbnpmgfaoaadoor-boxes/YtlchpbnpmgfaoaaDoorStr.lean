/-
  Strings as lists of bytes: joining them, making them of a row, reading a byte.
-/
import Derived.Test.YtlchpbnpmgfaoaaDoorRow
import Derived.Laws.BytesArg
import Derived.Lib.Strings
import Derived.Laws.ShiftsVarLaws
namespace Go.Proofs.YtlchpbnpmgfaoaaDoor
open Go.RowKit

def str (l : List UInt8) : ByteArray := ⟨l.toArray⟩
theorem str_size (l : List UInt8) : (str l).size = l.length := by simp [str, ByteArray.size]
theorem str_data (l : List UInt8) : (str l).data.toList = l := by simp [str]
theorem str_toList (l : List UInt8) : (str l).toList = l := by rw [ByteArray.toList_eq, str_data]
theorem str_of (s : ByteArray) : str s.data.toList = s := by cases s; simp [str]
theorem str_append (a b : List UInt8) : str a ++ str b = str (a ++ b) := ByteArray.mk_append_mk a b
theorem str_nil : (⟨#[]⟩ : ByteArray) = str [] := rfl

/-- 's + t'. -/
theorem addS (a b : List UInt8) (h : a.length + b.length ≤ 9223372036854775807) (w : World) : (Op.stringOp .add (str a) (str b)).run Tryd.prog w = .ok (.string (str (a ++ b))) w := by
  rw [run_string_add_sum w _ _ (by rw [str_size, str_size]; exact h), str_append]

/-- 'string(b)', b a row of bytes from its head. -/
theorem convRow {w : World} {b n c : Nat} {t : TypeId} {l : List Nat} (h : Blk w b t .u8 l) (hn : n ≤ l.length) :
    (convert 59 9 (.slice (some ⟨b, 0, none⟩) n c)).run Tryd.prog w = .ok (.string (str ((l.take n).map UInt8.ofNat))) w := by
  have := run_convert_bytes_arg (P := Tryd.prog) w 59 5 Tryd.underlying59 Tryd.underlying5 b 0 n c ((l.take n).map fun x : Nat => (x : Int)) (by simp; omega)
    (fun i hi => by
      rw [Nat.zero_add, h.cell i (by omega)]
      simp [show i < l.length by omega, hi]) 9 Tryd.underlying9
  rw [this]
  simp [strOfNums, str]
  rfl

/-- 'string([]byte{z})', the block just laid. -/
theorem conv1 (z : Int) (w : World) :
    (convert 59 9 (.slice (some ⟨w.heap.size, 0, none⟩) 1 1)).run Tryd.prog (w.alloc (.cells #[.int .u8 z] 5)) = .ok (.string (str [UInt8.ofNat z.toNat])) (w.alloc (.cells #[.int .u8 z] 5)) :=
  run_convert_bytes_arg (P := Tryd.prog) _ 59 5 Tryd.underlying59 Tryd.underlying5 w.heap.size 0 1 1 [z] rfl
    (fun i hi => by
      obtain rfl : i = 0 := by omega
      rw [World.cell?_alloc_new]
      rfl) 9 Tryd.underlying9

/-- 's[i]', s a string of so many bytes. -/
theorem idxL (l : List UInt8) (i : Int) (j : Nat) (hi : i = j) (h : j < l.length) (w : World) :
    (Instr.index 9 (.string (str l)) (.int .i64 i)).run Tryd.prog w = .ok (.int .u8 (byteAt l j : Nat)) w := by
  subst hi
  have hs : j < (str l).size := by rw [str_size]; exact h
  rw [run_index_string w _ _ _ _ Tryd.underlying9, dif_pos ⟨by omega, by omega⟩]
  have e : byteAt l j = ((str l)[j]'hs).toNat := by
    unfold byteAt
    rw [getD_in _ _ h]
    rfl
  rw [e]
  rfl
/-- 's[a:b]'. -/
theorem str_extract (l : List UInt8) (a b : Nat) : (str l).extract a b = str ((l.drop a).take (b - a)) := by
  rw [← str_of ((str l).extract a b), Lib.extract_data, str_data]
theorem sliceL (l : List UInt8) (i j : Int) (a b : Nat) (hi : i = a) (hj : j = b) (hab : a ≤ b) (hb : b ≤ l.length) (w : World) :
    (Instr.slice 9 (.string (str l)) (some (.int .i64 i)) (some (.int .i64 j)) none).run Tryd.prog w = .ok (.string (str ((l.drop a).take (b - a)))) w := by
  subst hi; subst hj
  rw [run_slice_string w _ _ _ _ _ _ Tryd.underlying9 (by omega) (by omega) (by rw [str_size]; omega)]
  rw [Int.toNat_natCast, Int.toNat_natCast, str_extract]
def strLen : Value → Nat
  | .string s => s.size
  | _ => 0
theorem ofNat_mod (n : Nat) : UInt8.ofNat (n % 256) = UInt8.ofNat n := by
  apply UInt8.toNat_inj.1
  simp
end Go.Proofs.YtlchpbnpmgfaoaaDoor

/- What a type assertion on an object of a heap comes to. -/
import Derived.Test.YtleppjdmcjocmaaDoorChecked
import Derived.Laws.Small
import Derived.KernelRfl
namespace Go.Proofs.YtleppjdmcjocmaaDoor
open Go
theorem as_pair_pair (v : Value) (w : World) : (Instr.typeAssert (.iface 69 v) 80 69 true).run Tryd.prog w = .ok (.tuple #[v, .bool true]) w := by kernel_rfl
theorem as_pair_text (v : Value) (w : World) : (Instr.typeAssert (.iface 69 v) 80 74 true).run Tryd.prog w = .ok (.tuple #[.pointer none, .bool false]) w := by kernel_rfl
theorem as_pair_vector (v : Value) (w : World) : (Instr.typeAssert (.iface 69 v) 80 82 true).run Tryd.prog w = .ok (.tuple #[.pointer none, .bool false]) w := by kernel_rfl
theorem as_pair_code (v : Value) (w : World) : (Instr.typeAssert (.iface 69 v) 80 94 true).run Tryd.prog w = .ok (.tuple #[.pointer none, .bool false]) w := by kernel_rfl
theorem as_text_pair (v : Value) (w : World) : (Instr.typeAssert (.iface 74 v) 80 69 true).run Tryd.prog w = .ok (.tuple #[.pointer none, .bool false]) w := by kernel_rfl
theorem as_text_text (v : Value) (w : World) : (Instr.typeAssert (.iface 74 v) 80 74 true).run Tryd.prog w = .ok (.tuple #[v, .bool true]) w := by kernel_rfl
theorem as_text_vector (v : Value) (w : World) : (Instr.typeAssert (.iface 74 v) 80 82 true).run Tryd.prog w = .ok (.tuple #[.pointer none, .bool false]) w := by kernel_rfl
theorem as_text_code (v : Value) (w : World) : (Instr.typeAssert (.iface 74 v) 80 94 true).run Tryd.prog w = .ok (.tuple #[.pointer none, .bool false]) w := by kernel_rfl
theorem as_vector_pair (v : Value) (w : World) : (Instr.typeAssert (.iface 82 v) 80 69 true).run Tryd.prog w = .ok (.tuple #[.pointer none, .bool false]) w := by kernel_rfl
theorem as_vector_text (v : Value) (w : World) : (Instr.typeAssert (.iface 82 v) 80 74 true).run Tryd.prog w = .ok (.tuple #[.pointer none, .bool false]) w := by kernel_rfl
theorem as_vector_vector (v : Value) (w : World) : (Instr.typeAssert (.iface 82 v) 80 82 true).run Tryd.prog w = .ok (.tuple #[v, .bool true]) w := by kernel_rfl
theorem as_vector_code (v : Value) (w : World) : (Instr.typeAssert (.iface 82 v) 80 94 true).run Tryd.prog w = .ok (.tuple #[.pointer none, .bool false]) w := by kernel_rfl
theorem as_code_pair (v : Value) (w : World) : (Instr.typeAssert (.iface 94 v) 80 69 true).run Tryd.prog w = .ok (.tuple #[.pointer none, .bool false]) w := by kernel_rfl
theorem as_code_text (v : Value) (w : World) : (Instr.typeAssert (.iface 94 v) 80 74 true).run Tryd.prog w = .ok (.tuple #[.pointer none, .bool false]) w := by kernel_rfl
theorem as_code_vector (v : Value) (w : World) : (Instr.typeAssert (.iface 94 v) 80 82 true).run Tryd.prog w = .ok (.tuple #[.pointer none, .bool false]) w := by kernel_rfl
theorem as_code_code (v : Value) (w : World) : (Instr.typeAssert (.iface 94 v) 80 94 true).run Tryd.prog w = .ok (.tuple #[v, .bool true]) w := by kernel_rfl
theorem as_nil_pair (w : World) : (Instr.typeAssert .nilIface 80 69 true).run Tryd.prog w = .ok (.tuple #[.pointer none, .bool false]) w := by kernel_rfl
theorem as_nil_text (w : World) : (Instr.typeAssert .nilIface 80 74 true).run Tryd.prog w = .ok (.tuple #[.pointer none, .bool false]) w := by kernel_rfl
theorem as_nil_vector (w : World) : (Instr.typeAssert .nilIface 80 82 true).run Tryd.prog w = .ok (.tuple #[.pointer none, .bool false]) w := by kernel_rfl
theorem as_nil_code (w : World) : (Instr.typeAssert .nilIface 80 94 true).run Tryd.prog w = .ok (.tuple #[.pointer none, .bool false]) w := by kernel_rfl
theorem mt_size_pair (b : Nat) (w : World) : (method 236 69 (.pointer (some ⟨b, 0, none⟩)) "copyist/heap.size").run Tryd.prog w = .ok (85, .pointer (some ⟨b, 0, none⟩)) w := by kernel_rfl
theorem mt_clone_pair (b : Nat) (w : World) : (method 236 69 (.pointer (some ⟨b, 0, none⟩)) "copyist/heap.clone").run Tryd.prog w = .ok (84, .pointer (some ⟨b, 0, none⟩)) w := by kernel_rfl
theorem mt_size_text (b : Nat) (w : World) : (method 236 74 (.pointer (some ⟨b, 0, none⟩)) "copyist/heap.size").run Tryd.prog w = .ok (87, .pointer (some ⟨b, 0, none⟩)) w := by kernel_rfl
theorem mt_clone_text (b : Nat) (w : World) : (method 236 74 (.pointer (some ⟨b, 0, none⟩)) "copyist/heap.clone").run Tryd.prog w = .ok (86, .pointer (some ⟨b, 0, none⟩)) w := by kernel_rfl
theorem mt_size_vector (b : Nat) (w : World) : (method 236 82 (.pointer (some ⟨b, 0, none⟩)) "copyist/heap.size").run Tryd.prog w = .ok (89, .pointer (some ⟨b, 0, none⟩)) w := by kernel_rfl
theorem mt_clone_vector (b : Nat) (w : World) : (method 236 82 (.pointer (some ⟨b, 0, none⟩)) "copyist/heap.clone").run Tryd.prog w = .ok (88, .pointer (some ⟨b, 0, none⟩)) w := by kernel_rfl
theorem mt_size_code (b : Nat) (w : World) : (method 236 94 (.pointer (some ⟨b, 0, none⟩)) "copyist/heap.size").run Tryd.prog w = .ok (91, .pointer (some ⟨b, 0, none⟩)) w := by kernel_rfl
theorem mt_clone_code (b : Nat) (w : World) : (method 236 94 (.pointer (some ⟨b, 0, none⟩)) "copyist/heap.clone").run Tryd.prog w = .ok (90, .pointer (some ⟨b, 0, none⟩)) w := by kernel_rfl
end Go.Proofs.YtleppjdmcjocmaaDoor
